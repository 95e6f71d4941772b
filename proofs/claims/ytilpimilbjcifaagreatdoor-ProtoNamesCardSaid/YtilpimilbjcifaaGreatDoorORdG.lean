/- Texts that belong together, one behind the other: ORdNode ORdField ORdTable ORdEntry ORdBlock ORdGroup ORdMeter ORdRegs. -/
import Derived.Test.YtilpimilbjcifaaGreatDoorOKindG
import Derived.Test.YtilpimilbjcifaaGreatDoorOTopB

/- Package obj's reader of Node, by walks. -/
namespace Go.Proofs.YtilpimilbjcifaaGreatDoor
set_option linter.unusedVariables false
set_option maxRecDepth 20000
open Go.ChangeShapes Go.WideShapes Go.ChangeAt Go.RowKit Go.Joins
open Go.ChangeMaps (open_string shut_string)
theorem node_gets {W : World} {x : FnP} {B b0 : Nat} (hb : B < b0) (hB : W.heap[B]? = some (.cells #[.int .i64 0, .int .i64 0, .int .i64 0, .int .i64 0, .int .i64 0, .int .i64 0, .int .i64 0, .slice none 0 0, .int .i64 0] 32 (0, 0)))
    {x0 x1 x2 x3 x4 x5 x6 x7 x8 : FnP} (hR : RecAt b0 W x [x0, x1, x2, x3, x4, x5, x6, x7, x8]) (hp : NumP .i64 2147483647 (by decide) b0 W x0 (⟨B, 0, none⟩ : Addr) ∧ NumP .i64 2147483647 (by decide) b0 W x1 (⟨B, 0 + 1, none⟩ : Addr) ∧ NumP .i64 2147483647 (by decide) b0 W x2 (⟨B, 0 + 2, none⟩ : Addr) ∧ NumP .i64 2147483647 (by decide) b0 W x3 (⟨B, 0 + 3, none⟩ : Addr) ∧ NumP .i64 2147483647 (by decide) b0 W x4 (⟨B, 0 + 4, none⟩ : Addr) ∧ NumP .i64 2147483647 (by decide) b0 W x5 (⟨B, 0 + 5, none⟩ : Addr) ∧ NumP .i64 2147483647 (by decide) b0 W x6 (⟨B, 0 + 6, none⟩ : Addr) ∧ NumP .i64 2147483647 (by decide) b0 W x7 (⟨B, 0 + 8, none⟩ : Addr) ∧ PartV lArms (inL ksArm) (relL 61 2 ksArm) b0 W x8 (⟨B, 0 + 7, none⟩ : Addr)) (s : ByteArray) (hs : s.size < 1000000) {v0 : Int} {v1 : Int} {v2 : Int} {v3 : Int} {v4 : Int} {v5 : Int} {v6 : Int} {v8 : Int} {L : List (List Int)} {r : Nat} (hr : decG csNode s.data.toList = ([ValN.num v0, ValN.num v1, ValN.num v2, ValN.num v3, ValN.num v4, ValN.num v5, ValN.num v6, ValN.num v8, ValN.lst L], r)) :
    Enters Tryz.prog x.gf ∧ Calls Tryz.prog x.gf (#[.string s] ++ x.gc) W fun e w' => e = .returned (.int .i64 (r : Int)) ∧ WBut [B] W w' ∧ (r = 0 → ∃ (A : Option Addr) (n cap : Nat), w'.heap[B]? = some (.cells #[.int .i64 v0, .int .i64 v1, .int .i64 v2, .int .i64 v3, .int .i64 v4, .int .i64 v5, .int .i64 v6, .slice A n cap, .int .i64 v8] 32 (0, 0)) ∧ L.length = n ∧ w'.ownsRow (B + 1) 61 2 (.slice A n cap) n (cellsK ksArm L)) := by
  obtain ⟨h0, h1, h2, h3, h4, h5, h6, h7, h8⟩ := hp
  have k := recget_c (B := B) hR (cs := csNode) (os := [0, 1, 2, 3, 4, 5, 6, 8, 7]) (Rs := [relV .i64, relV .i64, relV .i64, relV .i64, relV .i64, relV .i64, relV .i64, relV .i64, relL 61 2 ksArm]) rfl rfl rfl (by decide) (by
    intro R hR
    simp only [List.mem_cons, List.not_mem_nil, or_false] at hR
    rcases hR with rfl | rfl | rfl | rfl | rfl | rfl | rfl | rfl | rfl
    · exact relV_S _
    · exact relV_S _
    · exact relV_S _
    · exact relV_S _
    · exact relV_S _
    · exact relV_S _
    · exact relV_S _
    · exact relV_S _
    · exact relL_S _ _ _
    ) (by decide) (fun k p c o R e1 e2 e3 e4 => by
    match k, e1, e2, e3, e4 with
    | 0, e1, e2, e3, e4 =>
      simp [csNode] at e1 e2 e3 e4
      subst e1 e2 e3 e4
      exact h0.part.get
    | 1, e1, e2, e3, e4 =>
      simp [csNode] at e1 e2 e3 e4
      subst e1 e2 e3 e4
      exact h1.part.get
    | 2, e1, e2, e3, e4 =>
      simp [csNode] at e1 e2 e3 e4
      subst e1 e2 e3 e4
      exact h2.part.get
    | 3, e1, e2, e3, e4 =>
      simp [csNode] at e1 e2 e3 e4
      subst e1 e2 e3 e4
      exact h3.part.get
    | 4, e1, e2, e3, e4 =>
      simp [csNode] at e1 e2 e3 e4
      subst e1 e2 e3 e4
      exact h4.part.get
    | 5, e1, e2, e3, e4 =>
      simp [csNode] at e1 e2 e3 e4
      subst e1 e2 e3 e4
      exact h5.part.get
    | 6, e1, e2, e3, e4 =>
      simp [csNode] at e1 e2 e3 e4
      subst e1 e2 e3 e4
      exact h6.part.get
    | 7, e1, e2, e3, e4 =>
      simp [csNode] at e1 e2 e3 e4
      subst e1 e2 e3 e4
      exact h7.part.get
    | 8, e1, e2, e3, e4 =>
      simp [csNode] at e1 e2 e3 e4
      subst e1 e2 e3 e4
      exact h8.get
    | k + 9, e1, e2, e3, e4 => simp at e1) hb
  refine ⟨k.1, (k.2 W _ _ (Keeps.refl _ _) hB (by decide) ?_ s hs _ r hr).mono ?_⟩
  · intro k o R y e1 e2 e3
    match k, e1, e2, e3 with
    | 0, e1, e2, e3 =>
      simp [csNode, zeroG] at e1 e2 e3
      subst e1 e2 e3
      exact ⟨_, rfl, 0, rfl, rfl⟩
    | 1, e1, e2, e3 =>
      simp [csNode, zeroG] at e1 e2 e3
      subst e1 e2 e3
      exact ⟨_, rfl, 0, rfl, rfl⟩
    | 2, e1, e2, e3 =>
      simp [csNode, zeroG] at e1 e2 e3
      subst e1 e2 e3
      exact ⟨_, rfl, 0, rfl, rfl⟩
    | 3, e1, e2, e3 =>
      simp [csNode, zeroG] at e1 e2 e3
      subst e1 e2 e3
      exact ⟨_, rfl, 0, rfl, rfl⟩
    | 4, e1, e2, e3 =>
      simp [csNode, zeroG] at e1 e2 e3
      subst e1 e2 e3
      exact ⟨_, rfl, 0, rfl, rfl⟩
    | 5, e1, e2, e3 =>
      simp [csNode, zeroG] at e1 e2 e3
      subst e1 e2 e3
      exact ⟨_, rfl, 0, rfl, rfl⟩
    | 6, e1, e2, e3 =>
      simp [csNode, zeroG] at e1 e2 e3
      subst e1 e2 e3
      exact ⟨_, rfl, 0, rfl, rfl⟩
    | 7, e1, e2, e3 =>
      simp [csNode, zeroG] at e1 e2 e3
      subst e1 e2 e3
      exact ⟨_, rfl, 0, rfl, rfl⟩
    | 8, e1, e2, e3 =>
      simp [csNode, zeroG] at e1 e2 e3
      subst e1 e2 e3
      exact ⟨_, rfl, none, 0, 0, [], rfl, rfl, rfl, World.ownsRow_nil _ _ _ _⟩
    | k + 9, e1, e2, e3 => simp at e1
  · rintro e w3 ⟨rfl, g3, h⟩
    refine ⟨rfl, g3, fun h0 => ?_⟩
    obtain ⟨C', hC, hs', _, hst⟩ := h h0
    obtain ⟨u0, hu0, hv0⟩ := hst 0 0 _ _ rfl rfl rfl
    obtain ⟨n0, q0, rfl⟩ := hv0
    injection q0 with q0
    subst q0
    obtain ⟨u1, hu1, hv1⟩ := hst 1 1 _ _ rfl rfl rfl
    obtain ⟨n1, q1, rfl⟩ := hv1
    injection q1 with q1
    subst q1
    obtain ⟨u2, hu2, hv2⟩ := hst 2 2 _ _ rfl rfl rfl
    obtain ⟨n2, q2, rfl⟩ := hv2
    injection q2 with q2
    subst q2
    obtain ⟨u3, hu3, hv3⟩ := hst 3 3 _ _ rfl rfl rfl
    obtain ⟨n3, q3, rfl⟩ := hv3
    injection q3 with q3
    subst q3
    obtain ⟨u4, hu4, hv4⟩ := hst 4 4 _ _ rfl rfl rfl
    obtain ⟨n4, q4, rfl⟩ := hv4
    injection q4 with q4
    subst q4
    obtain ⟨u5, hu5, hv5⟩ := hst 5 5 _ _ rfl rfl rfl
    obtain ⟨n5, q5, rfl⟩ := hv5
    injection q5 with q5
    subst q5
    obtain ⟨u6, hu6, hv6⟩ := hst 6 6 _ _ rfl rfl rfl
    obtain ⟨n6, q6, rfl⟩ := hv6
    injection q6 with q6
    subst q6
    obtain ⟨u8, hu8, hv8⟩ := hst 7 8 _ _ rfl rfl rfl
    obtain ⟨n8, q8, rfl⟩ := hv8
    injection q8 with q8
    subst q8
    obtain ⟨u7, hu7, hv7⟩ := hst 8 7 _ _ rfl rfl rfl
    obtain ⟨A, n, cap, L2, rfl, qL, hLn, hLo⟩ := hv7
    injection qL with qL
    subst qL
    have e : C' = #[.int .i64 v0, .int .i64 v1, .int .i64 v2, .int .i64 v3, .int .i64 v4, .int .i64 v5, .int .i64 v6, .slice A n cap, .int .i64 v8] := by
      refine arr_of hs' fun i hi => ?_
      have hi : i < 9 := hi
      match i, hi with
      | 0, _ => exact hu0
      | 1, _ => exact hu1
      | 2, _ => exact hu2
      | 3, _ => exact hu3
      | 4, _ => exact hu4
      | 5, _ => exact hu5
      | 6, _ => exact hu6
      | 7, _ => exact hu7
      | 8, _ => exact hu8
      | i + 9, h => omega
    subst e
    exact ⟨A, n, cap, hC, hLn, hLo⟩
set_option maxHeartbeats 32000000 in
theorem rdNode_c (s : ByteArray) (w : World) (hs : s.size < 1000000) {v0 : Int} {v1 : Int} {v2 : Int} {v3 : Int} {v4 : Int} {v5 : Int} {v6 : Int} {v8 : Int} {L : List (List Int)} {r : Nat} (hr : decG csNode s.data.toList = ([ValN.num v0, ValN.num v1, ValN.num v2, ValN.num v3, ValN.num v4, ValN.num v5, ValN.num v6, ValN.num v8, ValN.lst L], r)) :
    Calls Tryz.prog 124 #[.string s, .func (.func 125) #[] #[]] w fun e w' => ∃ (A : Option Addr) (n cap : Nat), e = .returned (.tuple #[.agg #[.int .i64 v0, .int .i64 v1, .int .i64 v2, .int .i64 v3, .int .i64 v4, .int .i64 v5, .int .i64 v6, .slice A n cap, .int .i64 v8], .int .i64 (r : Int)]) ∧ Wider w w' ∧ L.length = n ∧ w'.ownsRow w.heap.size 61 2 (.slice A n cap) n (cellsK ksArm L) := by
  have H := (((Own.nil (Wider.refl w)).blk #[.int .i64 0, .int .i64 0, .int .i64 0, .int .i64 0, .int .i64 0, .int .i64 0, .int .i64 0, .slice none 0 0, .int .i64 0] 32).blk #[.int .i64 0, .int .i64 0, .int .i64 0, .int .i64 0, .int .i64 0, .int .i64 0, .int .i64 0, .slice none 0 0, .int .i64 0] 32).blk #[.int .i64 0, .int .i64 0, .int .i64 0, .int .i64 0, .int .i64 0, .int .i64 0, .int .i64 0, .slice none 0 0, .int .i64 0] 32
  have z1 : (w.alloc (.cells #[.int .i64 0, .int .i64 0, .int .i64 0, .int .i64 0, .int .i64 0, .int .i64 0, .int .i64 0, .slice none 0 0, .int .i64 0] 32)).heap.size = w.heap.size + 1 := by simp
  have z2 : ((w.alloc (.cells #[.int .i64 0, .int .i64 0, .int .i64 0, .int .i64 0, .int .i64 0, .int .i64 0, .int .i64 0, .slice none 0 0, .int .i64 0] 32)).alloc (.cells #[.int .i64 0, .int .i64 0, .int .i64 0, .int .i64 0, .int .i64 0, .int .i64 0, .int .i64 0, .slice none 0 0, .int .i64 0] 32)).heap.size = w.heap.size + 2 := by simp
  rw [z1, z2] at H
  have z3 : (((w.alloc (.cells #[.int .i64 0, .int .i64 0, .int .i64 0, .int .i64 0, .int .i64 0, .int .i64 0, .int .i64 0, .slice none 0 0, .int .i64 0] 32)).alloc (.cells #[.int .i64 0, .int .i64 0, .int .i64 0, .int .i64 0, .int .i64 0, .int .i64 0, .int .i64 0, .slice none 0 0, .int .i64 0] 32)).alloc (.cells #[.int .i64 0, .int .i64 0, .int .i64 0, .int .i64 0, .int .i64 0, .int .i64 0, .int .i64 0, .slice none 0 0, .int .i64 0] 32)).heap.size = w.heap.size + 3 := by simp
  have zs := node_s (((w.alloc (.cells #[.int .i64 0, .int .i64 0, .int .i64 0, .int .i64 0, .int .i64 0, .int .i64 0, .int .i64 0, .slice none 0 0, .int .i64 0] 32)).alloc (.cells #[.int .i64 0, .int .i64 0, .int .i64 0, .int .i64 0, .int .i64 0, .int .i64 0, .int .i64 0, .slice none 0 0, .int .i64 0] 32)).alloc (.cells #[.int .i64 0, .int .i64 0, .int .i64 0, .int .i64 0, .int .i64 0, .int .i64 0, .int .i64 0, .slice none 0 0, .int .i64 0] 32)) ⟨w.heap.size + 1, 0, none⟩
  rw [z3] at zs
  have hbad := decG_bad csNode s.data.toList
  rw [hr] at hbad
  have hfg := fld_get
  have HR := Lib.hid hr
  have HBAD := Lib.hid hbad
  have HH := Lib.hid H
  clear z1 z2 z3 hr hbad H
  by_cases r0 : r = 0
  · subst r0
    go_enter Tryz.func124, Tryz.ntmps124
    go_wp2_with (first
      | (go_at_call 125; (with_reducible refine zs.mono ?_); rintro e wA ⟨x, rfl, g1, x0, x1, x2, x3, x4, x5, x6, x7, x8, hR, hp⟩; have H1 := HH.out.quiet g1; have hq := node_gets (B := w.heap.size + 1) (by omega) H1.second hR hp s hs HR.out; have ent : ∀ (args : Array Value) (w : World), (callFunc x.gf args).run Tryz.prog w = .ok (.enter x.gf args) w := hq.1; have hq2 := hq.2; clear hq hR hp)
      | (go_at_fn x.gf; (with_reducible refine hq2.mono ?_); rintro e wB ⟨rfl, g2, hz⟩; obtain ⟨A, n, cap, hX, hLn, hLo⟩ := hz (by trivial); have hR3 := but_blk H1.drop.drop.head g2 (by omega))
      | (with_reducible refine wpList_load_row rfl 32 (.tmp 6) rfl (w.heap.size + 1) rfl 32 #[.int .i64 v0, .int .i64 v1, .int .i64 v2, .int .i64 v3, .int .i64 v4, .int .i64 v5, .int .i64 v6, .slice A n cap, .int .i64 v8] (0, 0) _ hX Tryz.underlying32 rfl (by kernel_rfl) ?_)
      | (with_reducible refine wpList_store_row rfl 32 (.tmp 4) (.tmp 18) rfl w.heap.size #[.int .i64 v0, .int .i64 v1, .int .i64 v2, .int .i64 v3, .int .i64 v4, .int .i64 v5, .int .i64 v6, .slice A n cap, .int .i64 v8] rfl rfl 32 #[.int .i64 0, .int .i64 0, .int .i64 0, .int .i64 0, .int .i64 0, .int .i64 0, .int .i64 0, .slice none 0 0, .int .i64 0] hR3 (by kernel_rfl) rfl (by simp [Value.oneCell']) ?_; obtain ⟨g6, h6⟩ := setRow_facts #[.int .i64 v0, .int .i64 v1, .int .i64 v2, .int .i64 v3, .int .i64 v4, .int .i64 v5, .int .i64 v6, .slice A n cap, .int .i64 v8] hR3))
    have hsz : wB.heap.size > w.heap.size := by have := g2.size; have := (Array.getElem?_eq_some_iff.1 H1.drop.drop.head).1; omega
    have W5 : Wider w wB := g2.wider H1.wider (by intro i m; simp only [List.mem_singleton] at m; omega)
    have W6w : Wider w _ := g6.wider W5 (by intro i m; simp only [List.mem_singleton] at m; omega)
    have d100 := blk_cell h6 0 (v := .int .i64 v0) rfl
    have d101 := blk_cell h6 1 (v := .int .i64 v1) rfl
    have d102 := blk_cell h6 2 (v := .int .i64 v2) rfl
    have d103 := blk_cell h6 3 (v := .int .i64 v3) rfl
    have d104 := blk_cell h6 4 (v := .int .i64 v4) rfl
    have d105 := blk_cell h6 5 (v := .int .i64 v5) rfl
    have d106 := blk_cell h6 6 (v := .int .i64 v6) rfl
    have d107 := blk_cell h6 7 (v := .slice A n cap) rfl
    have d108 := blk_cell h6 8 (v := .int .i64 v8) rfl
    simp [bodyPost, results, Tryz.results124, go_sem, d100, d101, d102, d103, d104, d105, d106, d107, d108]
    exact ⟨A, n, cap, by simp, W6w, hLn, ownsRow_less (b := w.heap.size + 1 + 1) (ownsRow_heap hLo fun i hi => g6.heap i (hLo.lt i (by simpa using hi)).2 (by have := (hLo.lt i (by simpa using hi)).1; simp; omega)) (by omega)⟩
  · have hzv : [ValN.num v0, ValN.num v1, ValN.num v2, ValN.num v3, ValN.num v4, ValN.num v5, ValN.num v6, ValN.num v8, ValN.lst L] = [ValN.num 0, ValN.num 0, ValN.num 0, ValN.num 0, ValN.num 0, ValN.num 0, ValN.num 0, ValN.num 0, ValN.lst []] ∧ (r = 3 ∨ r = 4) := by
      rcases HBAD.out with h | ⟨h1, h2⟩
      · exact absurd h r0
      · exact ⟨h1, h2⟩
    obtain ⟨hzv, _⟩ := hzv
    simp only [ValN.num.injEq, ValN.lst.injEq, List.cons.injEq, and_true] at hzv
    obtain ⟨rfl, rfl, rfl, rfl, rfl, rfl, rfl, rfl, rfl⟩ := hzv
    have d0 : ((r : Int) == 0) = false := by rw [beq_eq_false_iff_ne]; omega
    go_enter Tryz.func124, Tryz.ntmps124
    go_wp2_with (first
      | (go_at_call 125; (with_reducible refine zs.mono ?_); rintro e wA ⟨x, rfl, g1, x0, x1, x2, x3, x4, x5, x6, x7, x8, hR, hp⟩; have H1 := HH.out.quiet g1; have hq := node_gets (B := w.heap.size + 1) (by omega) H1.second hR hp s hs HR.out; have ent : ∀ (args : Array Value) (w : World), (callFunc x.gf args).run Tryz.prog w = .ok (.enter x.gf args) w := hq.1; have hq2 := hq.2; clear hq hR hp)
      | (go_at_fn x.gf; (with_reducible refine hq2.mono ?_); rintro e wB ⟨rfl, g2, hz⟩; have hX := but_blk H1.head g2 (by omega); have hR3 := but_blk H1.drop.drop.head g2 (by omega))
      | (with_reducible refine wpList_load_row rfl 32 (.tmp 7) rfl (w.heap.size + 1 + 1) rfl 32 #[.int .i64 0, .int .i64 0, .int .i64 0, .int .i64 0, .int .i64 0, .int .i64 0, .int .i64 0, .slice none 0 0, .int .i64 0] (0, 0) _ hX Tryz.underlying32 rfl (by kernel_rfl) ?_)
      | (with_reducible refine wpList_store_row rfl 32 (.tmp 4) (.tmp 16) rfl w.heap.size #[.int .i64 0, .int .i64 0, .int .i64 0, .int .i64 0, .int .i64 0, .int .i64 0, .int .i64 0, .slice none 0 0, .int .i64 0] rfl rfl 32 #[.int .i64 0, .int .i64 0, .int .i64 0, .int .i64 0, .int .i64 0, .int .i64 0, .int .i64 0, .slice none 0 0, .int .i64 0] hR3 (by kernel_rfl) rfl (by simp [Value.oneCell']) ?_; obtain ⟨g6, h6⟩ := setRow_facts #[.int .i64 0, .int .i64 0, .int .i64 0, .int .i64 0, .int .i64 0, .int .i64 0, .int .i64 0, .slice none 0 0, .int .i64 0] hR3))
    have hsz : wB.heap.size > w.heap.size := by have := g2.size; have := (Array.getElem?_eq_some_iff.1 H1.drop.drop.head).1; omega
    have W5 : Wider w wB := g2.wider H1.wider (by intro i m; simp only [List.mem_singleton] at m; omega)
    have W6w : Wider w _ := g6.wider W5 (by intro i m; simp only [List.mem_singleton] at m; omega)
    have d100 := blk_cell h6 0 (v := .int .i64 0) rfl
    have d101 := blk_cell h6 1 (v := .int .i64 0) rfl
    have d102 := blk_cell h6 2 (v := .int .i64 0) rfl
    have d103 := blk_cell h6 3 (v := .int .i64 0) rfl
    have d104 := blk_cell h6 4 (v := .int .i64 0) rfl
    have d105 := blk_cell h6 5 (v := .int .i64 0) rfl
    have d106 := blk_cell h6 6 (v := .int .i64 0) rfl
    have d107 := blk_cell h6 7 (v := .slice none 0 0) rfl
    have d108 := blk_cell h6 8 (v := .int .i64 0) rfl
    simp [bodyPost, results, Tryz.results124, go_sem, d100, d101, d102, d103, d104, d105, d106, d107, d108]
    exact ⟨none, 0, 0, by simp, W6w, rfl, World.ownsRow_nil _ _ _ _⟩
set_option maxHeartbeats 32000000 in
theorem readNode_c (s : ByteArray) (w : World) (hs : s.size < 1000000) {v0 : Int} {v1 : Int} {v2 : Int} {v3 : Int} {v4 : Int} {v5 : Int} {v6 : Int} {v8 : Int} {L : List (List Int)} {r : Nat} (hr : decG csNode s.data.toList = ([ValN.num v0, ValN.num v1, ValN.num v2, ValN.num v3, ValN.num v4, ValN.num v5, ValN.num v6, ValN.num v8, ValN.lst L], r)) :
    Calls Tryz.prog 83 #[.string s] w fun e w' => ∃ (A : Option Addr) (n cap : Nat), e = .returned (.tuple #[.agg #[.int .i64 v0, .int .i64 v1, .int .i64 v2, .int .i64 v3, .int .i64 v4, .int .i64 v5, .int .i64 v6, .slice A n cap, .int .i64 v8], .int .i64 (r : Int)]) ∧ Wider w w' ∧ L.length = n ∧ w'.ownsRow w.heap.size 61 2 (.slice A n cap) n (cellsK ksArm L) := by
  have H := (Own.nil (Wider.refl w)).blk #[.int .i64 0, .int .i64 0, .int .i64 0, .int .i64 0, .int .i64 0, .int .i64 0, .int .i64 0, .slice none 0 0, .int .i64 0] 32
  have zr := rdNode_c s (w.alloc (.cells #[.int .i64 0, .int .i64 0, .int .i64 0, .int .i64 0, .int .i64 0, .int .i64 0, .int .i64 0, .slice none 0 0, .int .i64 0] 32)) hs hr
  have HH := Lib.hid H
  clear hr H
  go_enter Tryz.func83, Tryz.ntmps83
  go_wp2_with (first
    | (go_at_call 124; (with_reducible refine zr.mono ?_); rintro e wB ⟨A, n, cap, rfl, g1, hLn, hLo⟩; have H1 := HH.out.quiet g1; have hR3 := H1.head)
    | (with_reducible refine wpList_store_row rfl 32 (.tmp 2) (.tmp 6) rfl w.heap.size #[.int .i64 v0, .int .i64 v1, .int .i64 v2, .int .i64 v3, .int .i64 v4, .int .i64 v5, .int .i64 v6, .slice A n cap, .int .i64 v8] rfl rfl 32 #[.int .i64 0, .int .i64 0, .int .i64 0, .int .i64 0, .int .i64 0, .int .i64 0, .int .i64 0, .slice none 0 0, .int .i64 0] hR3 (by kernel_rfl) rfl (by simp [Value.oneCell']) ?_; obtain ⟨g6, h6⟩ := setRow_facts #[.int .i64 v0, .int .i64 v1, .int .i64 v2, .int .i64 v3, .int .i64 v4, .int .i64 v5, .int .i64 v6, .slice A n cap, .int .i64 v8] hR3))
  have W6w : Wider w _ := g6.wider H1.wider (by intro i m; simp only [List.mem_singleton] at m; omega)
  have d100 := blk_cell h6 0 (v := .int .i64 v0) rfl
  have d101 := blk_cell h6 1 (v := .int .i64 v1) rfl
  have d102 := blk_cell h6 2 (v := .int .i64 v2) rfl
  have d103 := blk_cell h6 3 (v := .int .i64 v3) rfl
  have d104 := blk_cell h6 4 (v := .int .i64 v4) rfl
  have d105 := blk_cell h6 5 (v := .int .i64 v5) rfl
  have d106 := blk_cell h6 6 (v := .int .i64 v6) rfl
  have d107 := blk_cell h6 7 (v := .slice A n cap) rfl
  have d108 := blk_cell h6 8 (v := .int .i64 v8) rfl
  simp [bodyPost, results, Tryz.results83, go_sem, d100, d101, d102, d103, d104, d105, d106, d107, d108]
  have hz : (w.alloc (.cells #[.int .i64 0, .int .i64 0, .int .i64 0, .int .i64 0, .int .i64 0, .int .i64 0, .int .i64 0, .slice none 0 0, .int .i64 0] 32)).heap.size = w.heap.size + 1 := by simp
  exact ⟨A, n, cap, by simp, W6w, hLn, ownsRow_less (ownsRow_heap hLo fun i hi => g6.heap i (hLo.lt i (by simpa using hi)).2 (by have := (hLo.lt i (by simpa using hi)).1; simp; omega)) (by omega)⟩
end Go.Proofs.YtilpimilbjcifaaGreatDoor

/- Package obj's reader of Field, by walks. -/
namespace Go.Proofs.YtilpimilbjcifaaGreatDoor
set_option linter.unusedVariables false
set_option maxRecDepth 20000
open Go.ChangeShapes Go.WideShapes Go.ChangeAt Go.RowKit Go.Joins
open Go.ChangeMaps (open_string shut_string)
theorem field_gets {W : World} {x : FnP} {B b0 : Nat} (hb : B < b0) (hB : W.heap[B]? = some (.cells #[.int .i64 0, .int .u8 0, .int .i64 0, .int .i64 0, .int .i64 0] 34 (0, 0)))
    {x0 x1 x2 x3 x4 : FnP} (hR : RecAt b0 W x [x0, x1, x2, x3, x4]) (hp : NumP .i64 2147483647 (by decide) b0 W x0 (⟨B, 0, none⟩ : Addr) ∧ NumP .u8 255 (by decide) b0 W x1 (⟨B, 0 + 1, none⟩ : Addr) ∧ NumP .i64 2147483647 (by decide) b0 W x2 (⟨B, 0 + 2, none⟩ : Addr) ∧ NumP .i64 2147483647 (by decide) b0 W x3 (⟨B, 0 + 3, none⟩ : Addr) ∧ NumP .i64 2147483647 (by decide) b0 W x4 (⟨B, 0 + 4, none⟩ : Addr)) (s : ByteArray) (hs : s.size < 1000000) {v0 : Int} {v1 : Int} {v2 : Int} {v3 : Int} {v4 : Int} {r : Nat} (hr : decG csField s.data.toList = ([ValN.num v0, ValN.num v1, ValN.num v2, ValN.num v3, ValN.num v4], r)) :
    Enters Tryz.prog x.gf ∧ Calls Tryz.prog x.gf (#[.string s] ++ x.gc) W fun e w' => e = .returned (.int .i64 (r : Int)) ∧ WBut [B] W w' ∧ (r = 0 → w'.heap[B]? = some (.cells #[.int .i64 v0, .int .u8 v1, .int .i64 v2, .int .i64 v3, .int .i64 v4] 34 (0, 0))) := by
  obtain ⟨h0, h1, h2, h3, h4⟩ := hp
  have k := recget_c (B := B) hR (cs := csField) (os := [0, 1, 2, 3, 4]) (Rs := [relV .i64, relV .u8, relV .i64, relV .i64, relV .i64]) rfl rfl rfl (by decide) (by
    intro R hR
    simp only [List.mem_cons, List.not_mem_nil, or_false] at hR
    rcases hR with rfl | rfl | rfl | rfl | rfl
    · exact relV_S _
    · exact relV_S _
    · exact relV_S _
    · exact relV_S _
    · exact relV_S _
    ) (by decide) (fun k p c o R e1 e2 e3 e4 => by
    match k, e1, e2, e3, e4 with
    | 0, e1, e2, e3, e4 =>
      simp [csField] at e1 e2 e3 e4
      subst e1 e2 e3 e4
      exact h0.part.get
    | 1, e1, e2, e3, e4 =>
      simp [csField] at e1 e2 e3 e4
      subst e1 e2 e3 e4
      exact h1.part.get
    | 2, e1, e2, e3, e4 =>
      simp [csField] at e1 e2 e3 e4
      subst e1 e2 e3 e4
      exact h2.part.get
    | 3, e1, e2, e3, e4 =>
      simp [csField] at e1 e2 e3 e4
      subst e1 e2 e3 e4
      exact h3.part.get
    | 4, e1, e2, e3, e4 =>
      simp [csField] at e1 e2 e3 e4
      subst e1 e2 e3 e4
      exact h4.part.get
    | k + 5, e1, e2, e3, e4 => simp at e1) hb
  refine ⟨k.1, (k.2 W _ _ (Keeps.refl _ _) hB (by decide) ?_ s hs _ r hr).mono ?_⟩
  · intro k o R y e1 e2 e3
    match k, e1, e2, e3 with
    | 0, e1, e2, e3 =>
      simp [csField, zeroG] at e1 e2 e3
      subst e1 e2 e3
      exact ⟨_, rfl, 0, rfl, rfl⟩
    | 1, e1, e2, e3 =>
      simp [csField, zeroG] at e1 e2 e3
      subst e1 e2 e3
      exact ⟨_, rfl, 0, rfl, rfl⟩
    | 2, e1, e2, e3 =>
      simp [csField, zeroG] at e1 e2 e3
      subst e1 e2 e3
      exact ⟨_, rfl, 0, rfl, rfl⟩
    | 3, e1, e2, e3 =>
      simp [csField, zeroG] at e1 e2 e3
      subst e1 e2 e3
      exact ⟨_, rfl, 0, rfl, rfl⟩
    | 4, e1, e2, e3 =>
      simp [csField, zeroG] at e1 e2 e3
      subst e1 e2 e3
      exact ⟨_, rfl, 0, rfl, rfl⟩
    | k + 5, e1, e2, e3 => simp at e1
  · rintro e w3 ⟨rfl, g3, h⟩
    refine ⟨rfl, g3, fun h0 => ?_⟩
    obtain ⟨C', hC, hs', _, hst⟩ := h h0
    obtain ⟨u0, hu0, hv0⟩ := hst 0 0 _ _ rfl rfl rfl
    obtain ⟨n0, q0, rfl⟩ := hv0
    injection q0 with q0
    subst q0
    obtain ⟨u1, hu1, hv1⟩ := hst 1 1 _ _ rfl rfl rfl
    obtain ⟨n1, q1, rfl⟩ := hv1
    injection q1 with q1
    subst q1
    obtain ⟨u2, hu2, hv2⟩ := hst 2 2 _ _ rfl rfl rfl
    obtain ⟨n2, q2, rfl⟩ := hv2
    injection q2 with q2
    subst q2
    obtain ⟨u3, hu3, hv3⟩ := hst 3 3 _ _ rfl rfl rfl
    obtain ⟨n3, q3, rfl⟩ := hv3
    injection q3 with q3
    subst q3
    obtain ⟨u4, hu4, hv4⟩ := hst 4 4 _ _ rfl rfl rfl
    obtain ⟨n4, q4, rfl⟩ := hv4
    injection q4 with q4
    subst q4
    have e : C' = #[.int .i64 v0, .int .u8 v1, .int .i64 v2, .int .i64 v3, .int .i64 v4] := by
      refine arr_of hs' fun i hi => ?_
      have hi : i < 5 := hi
      match i, hi with
      | 0, _ => exact hu0
      | 1, _ => exact hu1
      | 2, _ => exact hu2
      | 3, _ => exact hu3
      | 4, _ => exact hu4
      | i + 5, h => omega
    subst e
    exact hC
set_option maxHeartbeats 32000000 in
theorem rdField_c (s : ByteArray) (w : World) (hs : s.size < 1000000) {v0 : Int} {v1 : Int} {v2 : Int} {v3 : Int} {v4 : Int} {r : Nat} (hr : decG csField s.data.toList = ([ValN.num v0, ValN.num v1, ValN.num v2, ValN.num v3, ValN.num v4], r)) :
    Calls Tryz.prog 126 #[.string s, .func (.func 127) #[] #[]] w fun e w' => e = .returned (.tuple #[.agg #[.int .i64 v0, .int .u8 v1, .int .i64 v2, .int .i64 v3, .int .i64 v4], .int .i64 (r : Int)]) ∧ Wider w w' := by
  have H := (((Own.nil (Wider.refl w)).blk #[.int .i64 0, .int .u8 0, .int .i64 0, .int .i64 0, .int .i64 0] 34).blk #[.int .i64 0, .int .u8 0, .int .i64 0, .int .i64 0, .int .i64 0] 34).blk #[.int .i64 0, .int .u8 0, .int .i64 0, .int .i64 0, .int .i64 0] 34
  have z1 : (w.alloc (.cells #[.int .i64 0, .int .u8 0, .int .i64 0, .int .i64 0, .int .i64 0] 34)).heap.size = w.heap.size + 1 := by simp
  have z2 : ((w.alloc (.cells #[.int .i64 0, .int .u8 0, .int .i64 0, .int .i64 0, .int .i64 0] 34)).alloc (.cells #[.int .i64 0, .int .u8 0, .int .i64 0, .int .i64 0, .int .i64 0] 34)).heap.size = w.heap.size + 2 := by simp
  rw [z1, z2] at H
  have z3 : (((w.alloc (.cells #[.int .i64 0, .int .u8 0, .int .i64 0, .int .i64 0, .int .i64 0] 34)).alloc (.cells #[.int .i64 0, .int .u8 0, .int .i64 0, .int .i64 0, .int .i64 0] 34)).alloc (.cells #[.int .i64 0, .int .u8 0, .int .i64 0, .int .i64 0, .int .i64 0] 34)).heap.size = w.heap.size + 3 := by simp
  have zs := field_s (((w.alloc (.cells #[.int .i64 0, .int .u8 0, .int .i64 0, .int .i64 0, .int .i64 0] 34)).alloc (.cells #[.int .i64 0, .int .u8 0, .int .i64 0, .int .i64 0, .int .i64 0] 34)).alloc (.cells #[.int .i64 0, .int .u8 0, .int .i64 0, .int .i64 0, .int .i64 0] 34)) ⟨w.heap.size + 1, 0, none⟩
  rw [z3] at zs
  have hbad := decG_bad csField s.data.toList
  rw [hr] at hbad
  have hfg := fld_get
  have HR := Lib.hid hr
  have HBAD := Lib.hid hbad
  have HH := Lib.hid H
  clear z1 z2 z3 hr hbad H
  by_cases r0 : r = 0
  · subst r0
    go_enter Tryz.func126, Tryz.ntmps126
    go_wp2_with (first
      | (go_at_call 127; (with_reducible refine zs.mono ?_); rintro e wA ⟨x, rfl, g1, x0, x1, x2, x3, x4, hR, hp⟩; have H1 := HH.out.quiet g1; have hq := field_gets (B := w.heap.size + 1) (by omega) H1.second hR hp s hs HR.out; have ent : ∀ (args : Array Value) (w : World), (callFunc x.gf args).run Tryz.prog w = .ok (.enter x.gf args) w := hq.1; have hq2 := hq.2; clear hq hR hp)
      | (go_at_fn x.gf; (with_reducible refine hq2.mono ?_); rintro e wB ⟨rfl, g2, hz⟩; have hX := hz (by trivial); have hR3 := but_blk H1.drop.drop.head g2 (by omega))
      | (with_reducible refine wpList_load_row rfl 34 (.tmp 6) rfl (w.heap.size + 1) rfl 34 #[.int .i64 v0, .int .u8 v1, .int .i64 v2, .int .i64 v3, .int .i64 v4] (0, 0) _ hX Tryz.underlying34 rfl (by kernel_rfl) ?_)
      | (with_reducible refine wpList_store_row rfl 34 (.tmp 4) (.tmp 18) rfl w.heap.size #[.int .i64 v0, .int .u8 v1, .int .i64 v2, .int .i64 v3, .int .i64 v4] rfl rfl 34 #[.int .i64 0, .int .u8 0, .int .i64 0, .int .i64 0, .int .i64 0] hR3 (by kernel_rfl) rfl (by simp [Value.oneCell']) ?_; obtain ⟨g6, h6⟩ := setRow_facts #[.int .i64 v0, .int .u8 v1, .int .i64 v2, .int .i64 v3, .int .i64 v4] hR3))
    have hsz : wB.heap.size > w.heap.size := by have := g2.size; have := (Array.getElem?_eq_some_iff.1 H1.drop.drop.head).1; omega
    have W5 : Wider w wB := g2.wider H1.wider (by intro i m; simp only [List.mem_singleton] at m; omega)
    have W6w : Wider w _ := g6.wider W5 (by intro i m; simp only [List.mem_singleton] at m; omega)
    have d100 := blk_cell h6 0 (v := .int .i64 v0) rfl
    have d101 := blk_cell h6 1 (v := .int .u8 v1) rfl
    have d102 := blk_cell h6 2 (v := .int .i64 v2) rfl
    have d103 := blk_cell h6 3 (v := .int .i64 v3) rfl
    have d104 := blk_cell h6 4 (v := .int .i64 v4) rfl
    simp [bodyPost, results, Tryz.results126, go_sem, d100, d101, d102, d103, d104]
    exact W6w
  · have hzv : [ValN.num v0, ValN.num v1, ValN.num v2, ValN.num v3, ValN.num v4] = [ValN.num 0, ValN.num 0, ValN.num 0, ValN.num 0, ValN.num 0] ∧ (r = 3 ∨ r = 4) := by
      rcases HBAD.out with h | ⟨h1, h2⟩
      · exact absurd h r0
      · exact ⟨h1, h2⟩
    obtain ⟨hzv, _⟩ := hzv
    simp only [ValN.num.injEq, List.cons.injEq, and_true] at hzv
    obtain ⟨rfl, rfl, rfl, rfl, rfl⟩ := hzv
    have d0 : ((r : Int) == 0) = false := by rw [beq_eq_false_iff_ne]; omega
    go_enter Tryz.func126, Tryz.ntmps126
    go_wp2_with (first
      | (go_at_call 127; (with_reducible refine zs.mono ?_); rintro e wA ⟨x, rfl, g1, x0, x1, x2, x3, x4, hR, hp⟩; have H1 := HH.out.quiet g1; have hq := field_gets (B := w.heap.size + 1) (by omega) H1.second hR hp s hs HR.out; have ent : ∀ (args : Array Value) (w : World), (callFunc x.gf args).run Tryz.prog w = .ok (.enter x.gf args) w := hq.1; have hq2 := hq.2; clear hq hR hp)
      | (go_at_fn x.gf; (with_reducible refine hq2.mono ?_); rintro e wB ⟨rfl, g2, hz⟩; have hX := but_blk H1.head g2 (by omega); have hR3 := but_blk H1.drop.drop.head g2 (by omega))
      | (with_reducible refine wpList_load_row rfl 34 (.tmp 7) rfl (w.heap.size + 1 + 1) rfl 34 #[.int .i64 0, .int .u8 0, .int .i64 0, .int .i64 0, .int .i64 0] (0, 0) _ hX Tryz.underlying34 rfl (by kernel_rfl) ?_)
      | (with_reducible refine wpList_store_row rfl 34 (.tmp 4) (.tmp 16) rfl w.heap.size #[.int .i64 0, .int .u8 0, .int .i64 0, .int .i64 0, .int .i64 0] rfl rfl 34 #[.int .i64 0, .int .u8 0, .int .i64 0, .int .i64 0, .int .i64 0] hR3 (by kernel_rfl) rfl (by simp [Value.oneCell']) ?_; obtain ⟨g6, h6⟩ := setRow_facts #[.int .i64 0, .int .u8 0, .int .i64 0, .int .i64 0, .int .i64 0] hR3))
    have hsz : wB.heap.size > w.heap.size := by have := g2.size; have := (Array.getElem?_eq_some_iff.1 H1.drop.drop.head).1; omega
    have W5 : Wider w wB := g2.wider H1.wider (by intro i m; simp only [List.mem_singleton] at m; omega)
    have W6w : Wider w _ := g6.wider W5 (by intro i m; simp only [List.mem_singleton] at m; omega)
    have d100 := blk_cell h6 0 (v := .int .i64 0) rfl
    have d101 := blk_cell h6 1 (v := .int .u8 0) rfl
    have d102 := blk_cell h6 2 (v := .int .i64 0) rfl
    have d103 := blk_cell h6 3 (v := .int .i64 0) rfl
    have d104 := blk_cell h6 4 (v := .int .i64 0) rfl
    simp [bodyPost, results, Tryz.results126, go_sem, d100, d101, d102, d103, d104]
    exact W6w
set_option maxHeartbeats 32000000 in
theorem readField_c (s : ByteArray) (w : World) (hs : s.size < 1000000) {v0 : Int} {v1 : Int} {v2 : Int} {v3 : Int} {v4 : Int} {r : Nat} (hr : decG csField s.data.toList = ([ValN.num v0, ValN.num v1, ValN.num v2, ValN.num v3, ValN.num v4], r)) :
    Calls Tryz.prog 84 #[.string s] w fun e w' => e = .returned (.tuple #[.agg #[.int .i64 v0, .int .u8 v1, .int .i64 v2, .int .i64 v3, .int .i64 v4], .int .i64 (r : Int)]) ∧ Wider w w' := by
  have H := (Own.nil (Wider.refl w)).blk #[.int .i64 0, .int .u8 0, .int .i64 0, .int .i64 0, .int .i64 0] 34
  have zr := rdField_c s (w.alloc (.cells #[.int .i64 0, .int .u8 0, .int .i64 0, .int .i64 0, .int .i64 0] 34)) hs hr
  have HH := Lib.hid H
  clear hr H
  go_enter Tryz.func84, Tryz.ntmps84
  go_wp2_with (first
    | (go_at_call 126; (with_reducible refine zr.mono ?_); rintro e wB ⟨rfl, g1⟩; have H1 := HH.out.quiet g1; have hR3 := H1.head)
    | (with_reducible refine wpList_store_row rfl 34 (.tmp 2) (.tmp 6) rfl w.heap.size #[.int .i64 v0, .int .u8 v1, .int .i64 v2, .int .i64 v3, .int .i64 v4] rfl rfl 34 #[.int .i64 0, .int .u8 0, .int .i64 0, .int .i64 0, .int .i64 0] hR3 (by kernel_rfl) rfl (by simp [Value.oneCell']) ?_; obtain ⟨g6, h6⟩ := setRow_facts #[.int .i64 v0, .int .u8 v1, .int .i64 v2, .int .i64 v3, .int .i64 v4] hR3))
  have W6w : Wider w _ := g6.wider H1.wider (by intro i m; simp only [List.mem_singleton] at m; omega)
  have d100 := blk_cell h6 0 (v := .int .i64 v0) rfl
  have d101 := blk_cell h6 1 (v := .int .u8 v1) rfl
  have d102 := blk_cell h6 2 (v := .int .i64 v2) rfl
  have d103 := blk_cell h6 3 (v := .int .i64 v3) rfl
  have d104 := blk_cell h6 4 (v := .int .i64 v4) rfl
  simp [bodyPost, results, Tryz.results84, go_sem, d100, d101, d102, d103, d104]
  exact W6w
end Go.Proofs.YtilpimilbjcifaaGreatDoor

/- Package obj's reader of Table, by walks. -/
namespace Go.Proofs.YtilpimilbjcifaaGreatDoor
set_option linter.unusedVariables false
set_option maxRecDepth 20000
open Go.ChangeShapes Go.WideShapes Go.ChangeAt Go.RowKit Go.Joins
open Go.ChangeMaps (open_string shut_string)
theorem table_gets {W : World} {x : FnP} {B b0 : Nat} (hb : B < b0) (hB : W.heap[B]? = some (.cells #[.int .i64 0, .int .u8 0, .slice none 0 0, .int .i64 0, .int .i64 0] 37 (0, 0)))
    {x0 x1 x2 x3 x4 : FnP} (hR : RecAt b0 W x [x0, x1, x2, x3, x4]) (hp : NumP .i64 2147483647 (by decide) b0 W x0 (⟨B, 0, none⟩ : Addr) ∧ NumP .u8 255 (by decide) b0 W x1 (⟨B, 0 + 1, none⟩ : Addr) ∧ PartV lKeys (inL ksKey) (relL 3 1 ksKey) b0 W x2 (⟨B, 0 + 2, none⟩ : Addr) ∧ NumP .i64 2147483647 (by decide) b0 W x3 (⟨B, 0 + 3, none⟩ : Addr) ∧ NumP .i64 2147483647 (by decide) b0 W x4 (⟨B, 0 + 4, none⟩ : Addr)) (s : ByteArray) (hs : s.size < 1000000) {v0 : Int} {v1 : Int} {v3 : Int} {v4 : Int} {L : List (List Int)} {r : Nat} (hr : decG csTable s.data.toList = ([ValN.num v0, ValN.num v1, ValN.lst L, ValN.num v3, ValN.num v4], r)) :
    Enters Tryz.prog x.gf ∧ Calls Tryz.prog x.gf (#[.string s] ++ x.gc) W fun e w' => e = .returned (.int .i64 (r : Int)) ∧ WBut [B] W w' ∧ (r = 0 → ∃ (A : Option Addr) (n cap : Nat), w'.heap[B]? = some (.cells #[.int .i64 v0, .int .u8 v1, .slice A n cap, .int .i64 v3, .int .i64 v4] 37 (0, 0)) ∧ L.length = n ∧ w'.ownsRow (B + 1) 3 1 (.slice A n cap) n (cellsK ksKey L)) := by
  obtain ⟨h0, h1, h2, h3, h4⟩ := hp
  have k := recget_c (B := B) hR (cs := csTable) (os := [0, 1, 2, 3, 4]) (Rs := [relV .i64, relV .u8, relL 3 1 ksKey, relV .i64, relV .i64]) rfl rfl rfl (by decide) (by
    intro R hR
    simp only [List.mem_cons, List.not_mem_nil, or_false] at hR
    rcases hR with rfl | rfl | rfl | rfl | rfl
    · exact relV_S _
    · exact relV_S _
    · exact relL_S _ _ _
    · exact relV_S _
    · exact relV_S _
    ) (by decide) (fun k p c o R e1 e2 e3 e4 => by
    match k, e1, e2, e3, e4 with
    | 0, e1, e2, e3, e4 =>
      simp [csTable] at e1 e2 e3 e4
      subst e1 e2 e3 e4
      exact h0.part.get
    | 1, e1, e2, e3, e4 =>
      simp [csTable] at e1 e2 e3 e4
      subst e1 e2 e3 e4
      exact h1.part.get
    | 2, e1, e2, e3, e4 =>
      simp [csTable] at e1 e2 e3 e4
      subst e1 e2 e3 e4
      exact h2.get
    | 3, e1, e2, e3, e4 =>
      simp [csTable] at e1 e2 e3 e4
      subst e1 e2 e3 e4
      exact h3.part.get
    | 4, e1, e2, e3, e4 =>
      simp [csTable] at e1 e2 e3 e4
      subst e1 e2 e3 e4
      exact h4.part.get
    | k + 5, e1, e2, e3, e4 => simp at e1) hb
  refine ⟨k.1, (k.2 W _ _ (Keeps.refl _ _) hB (by decide) ?_ s hs _ r hr).mono ?_⟩
  · intro k o R y e1 e2 e3
    match k, e1, e2, e3 with
    | 0, e1, e2, e3 =>
      simp [csTable, zeroG] at e1 e2 e3
      subst e1 e2 e3
      exact ⟨_, rfl, 0, rfl, rfl⟩
    | 1, e1, e2, e3 =>
      simp [csTable, zeroG] at e1 e2 e3
      subst e1 e2 e3
      exact ⟨_, rfl, 0, rfl, rfl⟩
    | 2, e1, e2, e3 =>
      simp [csTable, zeroG] at e1 e2 e3
      subst e1 e2 e3
      exact ⟨_, rfl, none, 0, 0, [], rfl, rfl, rfl, World.ownsRow_nil _ _ _ _⟩
    | 3, e1, e2, e3 =>
      simp [csTable, zeroG] at e1 e2 e3
      subst e1 e2 e3
      exact ⟨_, rfl, 0, rfl, rfl⟩
    | 4, e1, e2, e3 =>
      simp [csTable, zeroG] at e1 e2 e3
      subst e1 e2 e3
      exact ⟨_, rfl, 0, rfl, rfl⟩
    | k + 5, e1, e2, e3 => simp at e1
  · rintro e w3 ⟨rfl, g3, h⟩
    refine ⟨rfl, g3, fun h0 => ?_⟩
    obtain ⟨C', hC, hs', _, hst⟩ := h h0
    obtain ⟨u0, hu0, hv0⟩ := hst 0 0 _ _ rfl rfl rfl
    obtain ⟨n0, q0, rfl⟩ := hv0
    injection q0 with q0
    subst q0
    obtain ⟨u1, hu1, hv1⟩ := hst 1 1 _ _ rfl rfl rfl
    obtain ⟨n1, q1, rfl⟩ := hv1
    injection q1 with q1
    subst q1
    obtain ⟨u2, hu2, hv2⟩ := hst 2 2 _ _ rfl rfl rfl
    obtain ⟨A, n, cap, L2, rfl, qL, hLn, hLo⟩ := hv2
    injection qL with qL
    subst qL
    obtain ⟨u3, hu3, hv3⟩ := hst 3 3 _ _ rfl rfl rfl
    obtain ⟨n3, q3, rfl⟩ := hv3
    injection q3 with q3
    subst q3
    obtain ⟨u4, hu4, hv4⟩ := hst 4 4 _ _ rfl rfl rfl
    obtain ⟨n4, q4, rfl⟩ := hv4
    injection q4 with q4
    subst q4
    have e : C' = #[.int .i64 v0, .int .u8 v1, .slice A n cap, .int .i64 v3, .int .i64 v4] := by
      refine arr_of hs' fun i hi => ?_
      have hi : i < 5 := hi
      match i, hi with
      | 0, _ => exact hu0
      | 1, _ => exact hu1
      | 2, _ => exact hu2
      | 3, _ => exact hu3
      | 4, _ => exact hu4
      | i + 5, h => omega
    subst e
    exact ⟨A, n, cap, hC, hLn, hLo⟩
set_option maxHeartbeats 32000000 in
theorem rdTable_c (s : ByteArray) (w : World) (hs : s.size < 1000000) {v0 : Int} {v1 : Int} {v3 : Int} {v4 : Int} {L : List (List Int)} {r : Nat} (hr : decG csTable s.data.toList = ([ValN.num v0, ValN.num v1, ValN.lst L, ValN.num v3, ValN.num v4], r)) :
    Calls Tryz.prog 128 #[.string s, .func (.func 129) #[] #[]] w fun e w' => ∃ (A : Option Addr) (n cap : Nat), e = .returned (.tuple #[.agg #[.int .i64 v0, .int .u8 v1, .slice A n cap, .int .i64 v3, .int .i64 v4], .int .i64 (r : Int)]) ∧ Wider w w' ∧ L.length = n ∧ w'.ownsRow w.heap.size 3 1 (.slice A n cap) n (cellsK ksKey L) := by
  have H := (((Own.nil (Wider.refl w)).blk #[.int .i64 0, .int .u8 0, .slice none 0 0, .int .i64 0, .int .i64 0] 37).blk #[.int .i64 0, .int .u8 0, .slice none 0 0, .int .i64 0, .int .i64 0] 37).blk #[.int .i64 0, .int .u8 0, .slice none 0 0, .int .i64 0, .int .i64 0] 37
  have z1 : (w.alloc (.cells #[.int .i64 0, .int .u8 0, .slice none 0 0, .int .i64 0, .int .i64 0] 37)).heap.size = w.heap.size + 1 := by simp
  have z2 : ((w.alloc (.cells #[.int .i64 0, .int .u8 0, .slice none 0 0, .int .i64 0, .int .i64 0] 37)).alloc (.cells #[.int .i64 0, .int .u8 0, .slice none 0 0, .int .i64 0, .int .i64 0] 37)).heap.size = w.heap.size + 2 := by simp
  rw [z1, z2] at H
  have z3 : (((w.alloc (.cells #[.int .i64 0, .int .u8 0, .slice none 0 0, .int .i64 0, .int .i64 0] 37)).alloc (.cells #[.int .i64 0, .int .u8 0, .slice none 0 0, .int .i64 0, .int .i64 0] 37)).alloc (.cells #[.int .i64 0, .int .u8 0, .slice none 0 0, .int .i64 0, .int .i64 0] 37)).heap.size = w.heap.size + 3 := by simp
  have zs := table_s (((w.alloc (.cells #[.int .i64 0, .int .u8 0, .slice none 0 0, .int .i64 0, .int .i64 0] 37)).alloc (.cells #[.int .i64 0, .int .u8 0, .slice none 0 0, .int .i64 0, .int .i64 0] 37)).alloc (.cells #[.int .i64 0, .int .u8 0, .slice none 0 0, .int .i64 0, .int .i64 0] 37)) ⟨w.heap.size + 1, 0, none⟩
  rw [z3] at zs
  have hbad := decG_bad csTable s.data.toList
  rw [hr] at hbad
  have hfg := fld_get
  have HR := Lib.hid hr
  have HBAD := Lib.hid hbad
  have HH := Lib.hid H
  clear z1 z2 z3 hr hbad H
  by_cases r0 : r = 0
  · subst r0
    go_enter Tryz.func128, Tryz.ntmps128
    go_wp2_with (first
      | (go_at_call 129; (with_reducible refine zs.mono ?_); rintro e wA ⟨x, rfl, g1, x0, x1, x2, x3, x4, hR, hp⟩; have H1 := HH.out.quiet g1; have hq := table_gets (B := w.heap.size + 1) (by omega) H1.second hR hp s hs HR.out; have ent : ∀ (args : Array Value) (w : World), (callFunc x.gf args).run Tryz.prog w = .ok (.enter x.gf args) w := hq.1; have hq2 := hq.2; clear hq hR hp)
      | (go_at_fn x.gf; (with_reducible refine hq2.mono ?_); rintro e wB ⟨rfl, g2, hz⟩; obtain ⟨A, n, cap, hX, hLn, hLo⟩ := hz (by trivial); have hR3 := but_blk H1.drop.drop.head g2 (by omega))
      | (with_reducible refine wpList_load_row rfl 37 (.tmp 6) rfl (w.heap.size + 1) rfl 37 #[.int .i64 v0, .int .u8 v1, .slice A n cap, .int .i64 v3, .int .i64 v4] (0, 0) _ hX Tryz.underlying37 rfl (by kernel_rfl) ?_)
      | (with_reducible refine wpList_store_row rfl 37 (.tmp 4) (.tmp 18) rfl w.heap.size #[.int .i64 v0, .int .u8 v1, .slice A n cap, .int .i64 v3, .int .i64 v4] rfl rfl 37 #[.int .i64 0, .int .u8 0, .slice none 0 0, .int .i64 0, .int .i64 0] hR3 (by kernel_rfl) rfl (by simp [Value.oneCell']) ?_; obtain ⟨g6, h6⟩ := setRow_facts #[.int .i64 v0, .int .u8 v1, .slice A n cap, .int .i64 v3, .int .i64 v4] hR3))
    have hsz : wB.heap.size > w.heap.size := by have := g2.size; have := (Array.getElem?_eq_some_iff.1 H1.drop.drop.head).1; omega
    have W5 : Wider w wB := g2.wider H1.wider (by intro i m; simp only [List.mem_singleton] at m; omega)
    have W6w : Wider w _ := g6.wider W5 (by intro i m; simp only [List.mem_singleton] at m; omega)
    have d100 := blk_cell h6 0 (v := .int .i64 v0) rfl
    have d101 := blk_cell h6 1 (v := .int .u8 v1) rfl
    have d102 := blk_cell h6 2 (v := .slice A n cap) rfl
    have d103 := blk_cell h6 3 (v := .int .i64 v3) rfl
    have d104 := blk_cell h6 4 (v := .int .i64 v4) rfl
    simp [bodyPost, results, Tryz.results128, go_sem, d100, d101, d102, d103, d104]
    exact ⟨A, n, cap, by simp, W6w, hLn, ownsRow_less (b := w.heap.size + 1 + 1) (ownsRow_heap hLo fun i hi => g6.heap i (hLo.lt i (by simpa using hi)).2 (by have := (hLo.lt i (by simpa using hi)).1; simp; omega)) (by omega)⟩
  · have hzv : [ValN.num v0, ValN.num v1, ValN.lst L, ValN.num v3, ValN.num v4] = [ValN.num 0, ValN.num 0, ValN.lst [], ValN.num 0, ValN.num 0] ∧ (r = 3 ∨ r = 4) := by
      rcases HBAD.out with h | ⟨h1, h2⟩
      · exact absurd h r0
      · exact ⟨h1, h2⟩
    obtain ⟨hzv, _⟩ := hzv
    simp only [ValN.num.injEq, ValN.lst.injEq, List.cons.injEq, and_true] at hzv
    obtain ⟨rfl, rfl, rfl, rfl, rfl⟩ := hzv
    have d0 : ((r : Int) == 0) = false := by rw [beq_eq_false_iff_ne]; omega
    go_enter Tryz.func128, Tryz.ntmps128
    go_wp2_with (first
      | (go_at_call 129; (with_reducible refine zs.mono ?_); rintro e wA ⟨x, rfl, g1, x0, x1, x2, x3, x4, hR, hp⟩; have H1 := HH.out.quiet g1; have hq := table_gets (B := w.heap.size + 1) (by omega) H1.second hR hp s hs HR.out; have ent : ∀ (args : Array Value) (w : World), (callFunc x.gf args).run Tryz.prog w = .ok (.enter x.gf args) w := hq.1; have hq2 := hq.2; clear hq hR hp)
      | (go_at_fn x.gf; (with_reducible refine hq2.mono ?_); rintro e wB ⟨rfl, g2, hz⟩; have hX := but_blk H1.head g2 (by omega); have hR3 := but_blk H1.drop.drop.head g2 (by omega))
      | (with_reducible refine wpList_load_row rfl 37 (.tmp 7) rfl (w.heap.size + 1 + 1) rfl 37 #[.int .i64 0, .int .u8 0, .slice none 0 0, .int .i64 0, .int .i64 0] (0, 0) _ hX Tryz.underlying37 rfl (by kernel_rfl) ?_)
      | (with_reducible refine wpList_store_row rfl 37 (.tmp 4) (.tmp 16) rfl w.heap.size #[.int .i64 0, .int .u8 0, .slice none 0 0, .int .i64 0, .int .i64 0] rfl rfl 37 #[.int .i64 0, .int .u8 0, .slice none 0 0, .int .i64 0, .int .i64 0] hR3 (by kernel_rfl) rfl (by simp [Value.oneCell']) ?_; obtain ⟨g6, h6⟩ := setRow_facts #[.int .i64 0, .int .u8 0, .slice none 0 0, .int .i64 0, .int .i64 0] hR3))
    have hsz : wB.heap.size > w.heap.size := by have := g2.size; have := (Array.getElem?_eq_some_iff.1 H1.drop.drop.head).1; omega
    have W5 : Wider w wB := g2.wider H1.wider (by intro i m; simp only [List.mem_singleton] at m; omega)
    have W6w : Wider w _ := g6.wider W5 (by intro i m; simp only [List.mem_singleton] at m; omega)
    have d100 := blk_cell h6 0 (v := .int .i64 0) rfl
    have d101 := blk_cell h6 1 (v := .int .u8 0) rfl
    have d102 := blk_cell h6 2 (v := .slice none 0 0) rfl
    have d103 := blk_cell h6 3 (v := .int .i64 0) rfl
    have d104 := blk_cell h6 4 (v := .int .i64 0) rfl
    simp [bodyPost, results, Tryz.results128, go_sem, d100, d101, d102, d103, d104]
    exact ⟨none, 0, 0, by simp, W6w, rfl, World.ownsRow_nil _ _ _ _⟩
set_option maxHeartbeats 32000000 in
theorem readTable_c (s : ByteArray) (w : World) (hs : s.size < 1000000) {v0 : Int} {v1 : Int} {v3 : Int} {v4 : Int} {L : List (List Int)} {r : Nat} (hr : decG csTable s.data.toList = ([ValN.num v0, ValN.num v1, ValN.lst L, ValN.num v3, ValN.num v4], r)) :
    Calls Tryz.prog 85 #[.string s] w fun e w' => ∃ (A : Option Addr) (n cap : Nat), e = .returned (.tuple #[.agg #[.int .i64 v0, .int .u8 v1, .slice A n cap, .int .i64 v3, .int .i64 v4], .int .i64 (r : Int)]) ∧ Wider w w' ∧ L.length = n ∧ w'.ownsRow w.heap.size 3 1 (.slice A n cap) n (cellsK ksKey L) := by
  have H := (Own.nil (Wider.refl w)).blk #[.int .i64 0, .int .u8 0, .slice none 0 0, .int .i64 0, .int .i64 0] 37
  have zr := rdTable_c s (w.alloc (.cells #[.int .i64 0, .int .u8 0, .slice none 0 0, .int .i64 0, .int .i64 0] 37)) hs hr
  have HH := Lib.hid H
  clear hr H
  go_enter Tryz.func85, Tryz.ntmps85
  go_wp2_with (first
    | (go_at_call 128; (with_reducible refine zr.mono ?_); rintro e wB ⟨A, n, cap, rfl, g1, hLn, hLo⟩; have H1 := HH.out.quiet g1; have hR3 := H1.head)
    | (with_reducible refine wpList_store_row rfl 37 (.tmp 2) (.tmp 6) rfl w.heap.size #[.int .i64 v0, .int .u8 v1, .slice A n cap, .int .i64 v3, .int .i64 v4] rfl rfl 37 #[.int .i64 0, .int .u8 0, .slice none 0 0, .int .i64 0, .int .i64 0] hR3 (by kernel_rfl) rfl (by simp [Value.oneCell']) ?_; obtain ⟨g6, h6⟩ := setRow_facts #[.int .i64 v0, .int .u8 v1, .slice A n cap, .int .i64 v3, .int .i64 v4] hR3))
  have W6w : Wider w _ := g6.wider H1.wider (by intro i m; simp only [List.mem_singleton] at m; omega)
  have d100 := blk_cell h6 0 (v := .int .i64 v0) rfl
  have d101 := blk_cell h6 1 (v := .int .u8 v1) rfl
  have d102 := blk_cell h6 2 (v := .slice A n cap) rfl
  have d103 := blk_cell h6 3 (v := .int .i64 v3) rfl
  have d104 := blk_cell h6 4 (v := .int .i64 v4) rfl
  simp [bodyPost, results, Tryz.results85, go_sem, d100, d101, d102, d103, d104]
  have hz : (w.alloc (.cells #[.int .i64 0, .int .u8 0, .slice none 0 0, .int .i64 0, .int .i64 0] 37)).heap.size = w.heap.size + 1 := by simp
  exact ⟨A, n, cap, by simp, W6w, hLn, ownsRow_less (ownsRow_heap hLo fun i hi => g6.heap i (hLo.lt i (by simpa using hi)).2 (by have := (hLo.lt i (by simpa using hi)).1; simp; omega)) (by omega)⟩
end Go.Proofs.YtilpimilbjcifaaGreatDoor

/- Package obj's reader of Entry, by walks. -/
namespace Go.Proofs.YtilpimilbjcifaaGreatDoor
set_option linter.unusedVariables false
set_option maxRecDepth 20000
open Go.ChangeShapes Go.WideShapes Go.ChangeAt Go.RowKit Go.Joins
open Go.ChangeMaps (open_string shut_string)
theorem entry_gets {W : World} {x : FnP} {B b0 : Nat} (hb : B < b0) (hB : W.heap[B]? = some (.cells #[.int .i64 0, .string ⟨#[]⟩, .string ⟨#[]⟩, .int .i64 0, .int .i64 0, .int .i64 0, .slice none 0 0, .int .i64 0, .int .i64 0, .int .u64 0, .bool false] 39 (0, 0)))
    {x0 x1 x2 x3 x4 x5 x6 x7 x8 x9 x10 : FnP} (hR : RecAt b0 W x [x0, x1, x2, x3, x4, x5, x6, x7, x8, x9, x10]) (hp : NumP .i64 2147483647 (by decide) b0 W x0 (⟨B, 0, none⟩ : Addr) ∧ PartV tK inT relT b0 W x1 (⟨B, 0 + 1, none⟩ : Addr) ∧ PartV tK inT relT b0 W x2 (⟨B, 0 + 2, none⟩ : Addr) ∧ NumP .i64 2147483647 (by decide) b0 W x3 (⟨B, 0 + 3, none⟩ : Addr) ∧ NumP .i64 2147483647 (by decide) b0 W x4 (⟨B, 0 + 4, none⟩ : Addr) ∧ NumP .i64 2147483647 (by decide) b0 W x5 (⟨B, 0 + 5, none⟩ : Addr) ∧ PartV lArgs (inL ksArg) (relL 28 1 ksArg) b0 W x6 (⟨B, 0 + 6, none⟩ : Addr) ∧ NumP .i64 9223372036854775807 (by decide) b0 W x7 (⟨B, 0 + 7, none⟩ : Addr) ∧ NumP .i64 9223372036854775807 (by decide) b0 W x8 (⟨B, 0 + 8, none⟩ : Addr) ∧ NumP .u64 18446744073709551615 (by decide) b0 W x9 (⟨B, 0 + 9, none⟩ : Addr) ∧ PartV nT inB relB b0 W x10 (⟨B, 0 + 10, none⟩ : Addr)) (s : ByteArray) (hs : s.size < 1000000) {v0 : Int} {v1 : ByteArray} {v2 : ByteArray} {v3 : Int} {v4 : Int} {v5 : Int} {v7 : Int} {v8 : Int} {v9 : Int} {v10 : Int} {L : List (List Int)} {r : Nat} (hr : decG csEntry s.data.toList = ([ValN.num v0, ValN.txt v1, ValN.txt v2, ValN.num v3, ValN.num v4, ValN.num v5, ValN.lst L, ValN.num v7, ValN.num v8, ValN.num v9, ValN.num v10], r)) :
    Enters Tryz.prog x.gf ∧ Calls Tryz.prog x.gf (#[.string s] ++ x.gc) W fun e w' => e = .returned (.int .i64 (r : Int)) ∧ WBut [B] W w' ∧ (r = 0 → ∃ (A : Option Addr) (n cap : Nat), w'.heap[B]? = some (.cells #[.int .i64 v0, .string v1, .string v2, .int .i64 v3, .int .i64 v4, .int .i64 v5, .slice A n cap, .int .i64 v7, .int .i64 v8, .int .u64 v9, .bool (v10 == 1)] 39 (0, 0)) ∧ L.length = n ∧ w'.ownsRow (B + 1) 28 1 (.slice A n cap) n (cellsK ksArg L)) := by
  obtain ⟨h0, h1, h2, h3, h4, h5, h6, h7, h8, h9, h10⟩ := hp
  have k := recget_c (B := B) hR (cs := csEntry) (os := [0, 1, 2, 3, 4, 5, 6, 7, 8, 9, 10]) (Rs := [relV .i64, relT, relT, relV .i64, relV .i64, relV .i64, relL 28 1 ksArg, relV .i64, relV .i64, relV .u64, relB]) rfl rfl rfl (by decide) (by
    intro R hR
    simp only [List.mem_cons, List.not_mem_nil, or_false] at hR
    rcases hR with rfl | rfl | rfl | rfl | rfl | rfl | rfl | rfl | rfl | rfl | rfl
    · exact relV_S _
    · exact relT_S
    · exact relT_S
    · exact relV_S _
    · exact relV_S _
    · exact relV_S _
    · exact relL_S _ _ _
    · exact relV_S _
    · exact relV_S _
    · exact relV_S _
    · exact relB_S
    ) (by decide) (fun k p c o R e1 e2 e3 e4 => by
    match k, e1, e2, e3, e4 with
    | 0, e1, e2, e3, e4 =>
      simp [csEntry] at e1 e2 e3 e4
      subst e1 e2 e3 e4
      exact h0.part.get
    | 1, e1, e2, e3, e4 =>
      simp [csEntry] at e1 e2 e3 e4
      subst e1 e2 e3 e4
      exact h1.get
    | 2, e1, e2, e3, e4 =>
      simp [csEntry] at e1 e2 e3 e4
      subst e1 e2 e3 e4
      exact h2.get
    | 3, e1, e2, e3, e4 =>
      simp [csEntry] at e1 e2 e3 e4
      subst e1 e2 e3 e4
      exact h3.part.get
    | 4, e1, e2, e3, e4 =>
      simp [csEntry] at e1 e2 e3 e4
      subst e1 e2 e3 e4
      exact h4.part.get
    | 5, e1, e2, e3, e4 =>
      simp [csEntry] at e1 e2 e3 e4
      subst e1 e2 e3 e4
      exact h5.part.get
    | 6, e1, e2, e3, e4 =>
      simp [csEntry] at e1 e2 e3 e4
      subst e1 e2 e3 e4
      exact h6.get
    | 7, e1, e2, e3, e4 =>
      simp [csEntry] at e1 e2 e3 e4
      subst e1 e2 e3 e4
      exact h7.part.get
    | 8, e1, e2, e3, e4 =>
      simp [csEntry] at e1 e2 e3 e4
      subst e1 e2 e3 e4
      exact h8.part.get
    | 9, e1, e2, e3, e4 =>
      simp [csEntry] at e1 e2 e3 e4
      subst e1 e2 e3 e4
      exact h9.part.get
    | 10, e1, e2, e3, e4 =>
      simp [csEntry] at e1 e2 e3 e4
      subst e1 e2 e3 e4
      exact h10.get
    | k + 11, e1, e2, e3, e4 => simp at e1) hb
  refine ⟨k.1, (k.2 W _ _ (Keeps.refl _ _) hB (by decide) ?_ s hs _ r hr).mono ?_⟩
  · intro k o R y e1 e2 e3
    match k, e1, e2, e3 with
    | 0, e1, e2, e3 =>
      simp [csEntry, zeroG] at e1 e2 e3
      subst e1 e2 e3
      exact ⟨_, rfl, 0, rfl, rfl⟩
    | 1, e1, e2, e3 =>
      simp [csEntry, zeroG] at e1 e2 e3
      subst e1 e2 e3
      exact ⟨_, rfl, ⟨#[]⟩, rfl, rfl⟩
    | 2, e1, e2, e3 =>
      simp [csEntry, zeroG] at e1 e2 e3
      subst e1 e2 e3
      exact ⟨_, rfl, ⟨#[]⟩, rfl, rfl⟩
    | 3, e1, e2, e3 =>
      simp [csEntry, zeroG] at e1 e2 e3
      subst e1 e2 e3
      exact ⟨_, rfl, 0, rfl, rfl⟩
    | 4, e1, e2, e3 =>
      simp [csEntry, zeroG] at e1 e2 e3
      subst e1 e2 e3
      exact ⟨_, rfl, 0, rfl, rfl⟩
    | 5, e1, e2, e3 =>
      simp [csEntry, zeroG] at e1 e2 e3
      subst e1 e2 e3
      exact ⟨_, rfl, 0, rfl, rfl⟩
    | 6, e1, e2, e3 =>
      simp [csEntry, zeroG] at e1 e2 e3
      subst e1 e2 e3
      exact ⟨_, rfl, none, 0, 0, [], rfl, rfl, rfl, World.ownsRow_nil _ _ _ _⟩
    | 7, e1, e2, e3 =>
      simp [csEntry, zeroG] at e1 e2 e3
      subst e1 e2 e3
      exact ⟨_, rfl, 0, rfl, rfl⟩
    | 8, e1, e2, e3 =>
      simp [csEntry, zeroG] at e1 e2 e3
      subst e1 e2 e3
      exact ⟨_, rfl, 0, rfl, rfl⟩
    | 9, e1, e2, e3 =>
      simp [csEntry, zeroG] at e1 e2 e3
      subst e1 e2 e3
      exact ⟨_, rfl, 0, rfl, rfl⟩
    | 10, e1, e2, e3 =>
      simp [csEntry, zeroG] at e1 e2 e3
      subst e1 e2 e3
      exact ⟨_, rfl, 0, rfl, rfl⟩
    | k + 11, e1, e2, e3 => simp at e1
  · rintro e w3 ⟨rfl, g3, h⟩
    refine ⟨rfl, g3, fun h0 => ?_⟩
    obtain ⟨C', hC, hs', _, hst⟩ := h h0
    obtain ⟨u0, hu0, hv0⟩ := hst 0 0 _ _ rfl rfl rfl
    obtain ⟨n0, q0, rfl⟩ := hv0
    injection q0 with q0
    subst q0
    obtain ⟨u1, hu1, hv1⟩ := hst 1 1 _ _ rfl rfl rfl
    obtain ⟨s1, q1, rfl⟩ := hv1
    injection q1 with q1
    subst q1
    obtain ⟨u2, hu2, hv2⟩ := hst 2 2 _ _ rfl rfl rfl
    obtain ⟨s2, q2, rfl⟩ := hv2
    injection q2 with q2
    subst q2
    obtain ⟨u3, hu3, hv3⟩ := hst 3 3 _ _ rfl rfl rfl
    obtain ⟨n3, q3, rfl⟩ := hv3
    injection q3 with q3
    subst q3
    obtain ⟨u4, hu4, hv4⟩ := hst 4 4 _ _ rfl rfl rfl
    obtain ⟨n4, q4, rfl⟩ := hv4
    injection q4 with q4
    subst q4
    obtain ⟨u5, hu5, hv5⟩ := hst 5 5 _ _ rfl rfl rfl
    obtain ⟨n5, q5, rfl⟩ := hv5
    injection q5 with q5
    subst q5
    obtain ⟨u6, hu6, hv6⟩ := hst 6 6 _ _ rfl rfl rfl
    obtain ⟨A, n, cap, L2, rfl, qL, hLn, hLo⟩ := hv6
    injection qL with qL
    subst qL
    obtain ⟨u7, hu7, hv7⟩ := hst 7 7 _ _ rfl rfl rfl
    obtain ⟨n7, q7, rfl⟩ := hv7
    injection q7 with q7
    subst q7
    obtain ⟨u8, hu8, hv8⟩ := hst 8 8 _ _ rfl rfl rfl
    obtain ⟨n8, q8, rfl⟩ := hv8
    injection q8 with q8
    subst q8
    obtain ⟨u9, hu9, hv9⟩ := hst 9 9 _ _ rfl rfl rfl
    obtain ⟨n9, q9, rfl⟩ := hv9
    injection q9 with q9
    subst q9
    obtain ⟨u10, hu10, hv10⟩ := hst 10 10 _ _ rfl rfl rfl
    obtain ⟨n10, q10, rfl⟩ := hv10
    injection q10 with q10
    subst q10
    have e : C' = #[.int .i64 v0, .string v1, .string v2, .int .i64 v3, .int .i64 v4, .int .i64 v5, .slice A n cap, .int .i64 v7, .int .i64 v8, .int .u64 v9, .bool (v10 == 1)] := by
      refine arr_of hs' fun i hi => ?_
      have hi : i < 11 := hi
      match i, hi with
      | 0, _ => exact hu0
      | 1, _ => exact hu1
      | 2, _ => exact hu2
      | 3, _ => exact hu3
      | 4, _ => exact hu4
      | 5, _ => exact hu5
      | 6, _ => exact hu6
      | 7, _ => exact hu7
      | 8, _ => exact hu8
      | 9, _ => exact hu9
      | 10, _ => exact hu10
      | i + 11, h => omega
    subst e
    exact ⟨A, n, cap, hC, hLn, hLo⟩
set_option maxHeartbeats 32000000 in
theorem rdEntry_c (s : ByteArray) (w : World) (hs : s.size < 1000000) {v0 : Int} {v1 : ByteArray} {v2 : ByteArray} {v3 : Int} {v4 : Int} {v5 : Int} {v7 : Int} {v8 : Int} {v9 : Int} {v10 : Int} {L : List (List Int)} {r : Nat} (hr : decG csEntry s.data.toList = ([ValN.num v0, ValN.txt v1, ValN.txt v2, ValN.num v3, ValN.num v4, ValN.num v5, ValN.lst L, ValN.num v7, ValN.num v8, ValN.num v9, ValN.num v10], r)) :
    Calls Tryz.prog 130 #[.string s, .func (.func 131) #[] #[]] w fun e w' => ∃ (A : Option Addr) (n cap : Nat), e = .returned (.tuple #[.agg #[.int .i64 v0, .string v1, .string v2, .int .i64 v3, .int .i64 v4, .int .i64 v5, .slice A n cap, .int .i64 v7, .int .i64 v8, .int .u64 v9, .bool (v10 == 1)], .int .i64 (r : Int)]) ∧ Wider w w' ∧ L.length = n ∧ w'.ownsRow w.heap.size 28 1 (.slice A n cap) n (cellsK ksArg L) := by
  have H := (((Own.nil (Wider.refl w)).blk #[.int .i64 0, .string ⟨#[]⟩, .string ⟨#[]⟩, .int .i64 0, .int .i64 0, .int .i64 0, .slice none 0 0, .int .i64 0, .int .i64 0, .int .u64 0, .bool false] 39).blk #[.int .i64 0, .string ⟨#[]⟩, .string ⟨#[]⟩, .int .i64 0, .int .i64 0, .int .i64 0, .slice none 0 0, .int .i64 0, .int .i64 0, .int .u64 0, .bool false] 39).blk #[.int .i64 0, .string ⟨#[]⟩, .string ⟨#[]⟩, .int .i64 0, .int .i64 0, .int .i64 0, .slice none 0 0, .int .i64 0, .int .i64 0, .int .u64 0, .bool false] 39
  have z1 : (w.alloc (.cells #[.int .i64 0, .string ⟨#[]⟩, .string ⟨#[]⟩, .int .i64 0, .int .i64 0, .int .i64 0, .slice none 0 0, .int .i64 0, .int .i64 0, .int .u64 0, .bool false] 39)).heap.size = w.heap.size + 1 := by simp
  have z2 : ((w.alloc (.cells #[.int .i64 0, .string ⟨#[]⟩, .string ⟨#[]⟩, .int .i64 0, .int .i64 0, .int .i64 0, .slice none 0 0, .int .i64 0, .int .i64 0, .int .u64 0, .bool false] 39)).alloc (.cells #[.int .i64 0, .string ⟨#[]⟩, .string ⟨#[]⟩, .int .i64 0, .int .i64 0, .int .i64 0, .slice none 0 0, .int .i64 0, .int .i64 0, .int .u64 0, .bool false] 39)).heap.size = w.heap.size + 2 := by simp
  rw [z1, z2] at H
  have z3 : (((w.alloc (.cells #[.int .i64 0, .string ⟨#[]⟩, .string ⟨#[]⟩, .int .i64 0, .int .i64 0, .int .i64 0, .slice none 0 0, .int .i64 0, .int .i64 0, .int .u64 0, .bool false] 39)).alloc (.cells #[.int .i64 0, .string ⟨#[]⟩, .string ⟨#[]⟩, .int .i64 0, .int .i64 0, .int .i64 0, .slice none 0 0, .int .i64 0, .int .i64 0, .int .u64 0, .bool false] 39)).alloc (.cells #[.int .i64 0, .string ⟨#[]⟩, .string ⟨#[]⟩, .int .i64 0, .int .i64 0, .int .i64 0, .slice none 0 0, .int .i64 0, .int .i64 0, .int .u64 0, .bool false] 39)).heap.size = w.heap.size + 3 := by simp
  have zs := entry_s (((w.alloc (.cells #[.int .i64 0, .string ⟨#[]⟩, .string ⟨#[]⟩, .int .i64 0, .int .i64 0, .int .i64 0, .slice none 0 0, .int .i64 0, .int .i64 0, .int .u64 0, .bool false] 39)).alloc (.cells #[.int .i64 0, .string ⟨#[]⟩, .string ⟨#[]⟩, .int .i64 0, .int .i64 0, .int .i64 0, .slice none 0 0, .int .i64 0, .int .i64 0, .int .u64 0, .bool false] 39)).alloc (.cells #[.int .i64 0, .string ⟨#[]⟩, .string ⟨#[]⟩, .int .i64 0, .int .i64 0, .int .i64 0, .slice none 0 0, .int .i64 0, .int .i64 0, .int .u64 0, .bool false] 39)) ⟨w.heap.size + 1, 0, none⟩
  rw [z3] at zs
  have hbad := decG_bad csEntry s.data.toList
  rw [hr] at hbad
  have hfg := fld_get
  have HR := Lib.hid hr
  have HBAD := Lib.hid hbad
  have HH := Lib.hid H
  clear z1 z2 z3 hr hbad H
  by_cases r0 : r = 0
  · subst r0
    go_enter Tryz.func130, Tryz.ntmps130
    go_wp2_with (first
      | (go_at_call 131; (with_reducible refine zs.mono ?_); rintro e wA ⟨x, rfl, g1, x0, x1, x2, x3, x4, x5, x6, x7, x8, x9, x10, hR, hp⟩; have H1 := HH.out.quiet g1; have hq := entry_gets (B := w.heap.size + 1) (by omega) H1.second hR hp s hs HR.out; have ent : ∀ (args : Array Value) (w : World), (callFunc x.gf args).run Tryz.prog w = .ok (.enter x.gf args) w := hq.1; have hq2 := hq.2; clear hq hR hp)
      | (go_at_fn x.gf; (with_reducible refine hq2.mono ?_); rintro e wB ⟨rfl, g2, hz⟩; obtain ⟨A, n, cap, hX, hLn, hLo⟩ := hz (by trivial); have hR3 := but_blk H1.drop.drop.head g2 (by omega))
      | (with_reducible refine wpList_load_row rfl 39 (.tmp 6) rfl (w.heap.size + 1) rfl 39 #[.int .i64 v0, .string v1, .string v2, .int .i64 v3, .int .i64 v4, .int .i64 v5, .slice A n cap, .int .i64 v7, .int .i64 v8, .int .u64 v9, .bool (v10 == 1)] (0, 0) _ hX Tryz.underlying39 rfl (by kernel_rfl) ?_)
      | (with_reducible refine wpList_store_row rfl 39 (.tmp 4) (.tmp 18) rfl w.heap.size #[.int .i64 v0, .string v1, .string v2, .int .i64 v3, .int .i64 v4, .int .i64 v5, .slice A n cap, .int .i64 v7, .int .i64 v8, .int .u64 v9, .bool (v10 == 1)] rfl rfl 39 #[.int .i64 0, .string ⟨#[]⟩, .string ⟨#[]⟩, .int .i64 0, .int .i64 0, .int .i64 0, .slice none 0 0, .int .i64 0, .int .i64 0, .int .u64 0, .bool false] hR3 (by kernel_rfl) rfl (by simp [Value.oneCell']) ?_; obtain ⟨g6, h6⟩ := setRow_facts #[.int .i64 v0, .string v1, .string v2, .int .i64 v3, .int .i64 v4, .int .i64 v5, .slice A n cap, .int .i64 v7, .int .i64 v8, .int .u64 v9, .bool (v10 == 1)] hR3))
    have hsz : wB.heap.size > w.heap.size := by have := g2.size; have := (Array.getElem?_eq_some_iff.1 H1.drop.drop.head).1; omega
    have W5 : Wider w wB := g2.wider H1.wider (by intro i m; simp only [List.mem_singleton] at m; omega)
    have W6w : Wider w _ := g6.wider W5 (by intro i m; simp only [List.mem_singleton] at m; omega)
    have d100 := blk_cell h6 0 (v := .int .i64 v0) rfl
    have d101 := blk_cell h6 1 (v := .string v1) rfl
    have d102 := blk_cell h6 2 (v := .string v2) rfl
    have d103 := blk_cell h6 3 (v := .int .i64 v3) rfl
    have d104 := blk_cell h6 4 (v := .int .i64 v4) rfl
    have d105 := blk_cell h6 5 (v := .int .i64 v5) rfl
    have d106 := blk_cell h6 6 (v := .slice A n cap) rfl
    have d107 := blk_cell h6 7 (v := .int .i64 v7) rfl
    have d108 := blk_cell h6 8 (v := .int .i64 v8) rfl
    have d109 := blk_cell h6 9 (v := .int .u64 v9) rfl
    have d110 := blk_cell h6 10 (v := .bool (v10 == 1)) rfl
    simp [bodyPost, results, Tryz.results130, go_sem, d100, d101, d102, d103, d104, d105, d106, d107, d108, d109, d110]
    exact ⟨A, n, cap, by simp, W6w, hLn, ownsRow_less (b := w.heap.size + 1 + 1) (ownsRow_heap hLo fun i hi => g6.heap i (hLo.lt i (by simpa using hi)).2 (by have := (hLo.lt i (by simpa using hi)).1; simp; omega)) (by omega)⟩
  · have hzv : [ValN.num v0, ValN.txt v1, ValN.txt v2, ValN.num v3, ValN.num v4, ValN.num v5, ValN.lst L, ValN.num v7, ValN.num v8, ValN.num v9, ValN.num v10] = [ValN.num 0, ValN.txt ⟨#[]⟩, ValN.txt ⟨#[]⟩, ValN.num 0, ValN.num 0, ValN.num 0, ValN.lst [], ValN.num 0, ValN.num 0, ValN.num 0, ValN.num 0] ∧ (r = 3 ∨ r = 4) := by
      rcases HBAD.out with h | ⟨h1, h2⟩
      · exact absurd h r0
      · exact ⟨h1, h2⟩
    obtain ⟨hzv, _⟩ := hzv
    simp only [ValN.num.injEq, ValN.txt.injEq, ValN.lst.injEq, List.cons.injEq, and_true] at hzv
    obtain ⟨rfl, rfl, rfl, rfl, rfl, rfl, rfl, rfl, rfl, rfl, rfl⟩ := hzv
    have d0 : ((r : Int) == 0) = false := by rw [beq_eq_false_iff_ne]; omega
    go_enter Tryz.func130, Tryz.ntmps130
    go_wp2_with (first
      | (go_at_call 131; (with_reducible refine zs.mono ?_); rintro e wA ⟨x, rfl, g1, x0, x1, x2, x3, x4, x5, x6, x7, x8, x9, x10, hR, hp⟩; have H1 := HH.out.quiet g1; have hq := entry_gets (B := w.heap.size + 1) (by omega) H1.second hR hp s hs HR.out; have ent : ∀ (args : Array Value) (w : World), (callFunc x.gf args).run Tryz.prog w = .ok (.enter x.gf args) w := hq.1; have hq2 := hq.2; clear hq hR hp)
      | (go_at_fn x.gf; (with_reducible refine hq2.mono ?_); rintro e wB ⟨rfl, g2, hz⟩; have hX := but_blk H1.head g2 (by omega); have hR3 := but_blk H1.drop.drop.head g2 (by omega))
      | (with_reducible refine wpList_load_row rfl 39 (.tmp 7) rfl (w.heap.size + 1 + 1) rfl 39 #[.int .i64 0, .string ⟨#[]⟩, .string ⟨#[]⟩, .int .i64 0, .int .i64 0, .int .i64 0, .slice none 0 0, .int .i64 0, .int .i64 0, .int .u64 0, .bool false] (0, 0) _ hX Tryz.underlying39 rfl (by kernel_rfl) ?_)
      | (with_reducible refine wpList_store_row rfl 39 (.tmp 4) (.tmp 16) rfl w.heap.size #[.int .i64 0, .string ⟨#[]⟩, .string ⟨#[]⟩, .int .i64 0, .int .i64 0, .int .i64 0, .slice none 0 0, .int .i64 0, .int .i64 0, .int .u64 0, .bool false] rfl rfl 39 #[.int .i64 0, .string ⟨#[]⟩, .string ⟨#[]⟩, .int .i64 0, .int .i64 0, .int .i64 0, .slice none 0 0, .int .i64 0, .int .i64 0, .int .u64 0, .bool false] hR3 (by kernel_rfl) rfl (by simp [Value.oneCell']) ?_; obtain ⟨g6, h6⟩ := setRow_facts #[.int .i64 0, .string ⟨#[]⟩, .string ⟨#[]⟩, .int .i64 0, .int .i64 0, .int .i64 0, .slice none 0 0, .int .i64 0, .int .i64 0, .int .u64 0, .bool false] hR3))
    have hsz : wB.heap.size > w.heap.size := by have := g2.size; have := (Array.getElem?_eq_some_iff.1 H1.drop.drop.head).1; omega
    have W5 : Wider w wB := g2.wider H1.wider (by intro i m; simp only [List.mem_singleton] at m; omega)
    have W6w : Wider w _ := g6.wider W5 (by intro i m; simp only [List.mem_singleton] at m; omega)
    have d100 := blk_cell h6 0 (v := .int .i64 0) rfl
    have d101 := blk_cell h6 1 (v := .string ⟨#[]⟩) rfl
    have d102 := blk_cell h6 2 (v := .string ⟨#[]⟩) rfl
    have d103 := blk_cell h6 3 (v := .int .i64 0) rfl
    have d104 := blk_cell h6 4 (v := .int .i64 0) rfl
    have d105 := blk_cell h6 5 (v := .int .i64 0) rfl
    have d106 := blk_cell h6 6 (v := .slice none 0 0) rfl
    have d107 := blk_cell h6 7 (v := .int .i64 0) rfl
    have d108 := blk_cell h6 8 (v := .int .i64 0) rfl
    have d109 := blk_cell h6 9 (v := .int .u64 0) rfl
    have d110 := blk_cell h6 10 (v := (.bool false)) rfl
    simp [bodyPost, results, Tryz.results130, go_sem, d100, d101, d102, d103, d104, d105, d106, d107, d108, d109, d110]
    exact ⟨none, 0, 0, by simp, W6w, rfl, World.ownsRow_nil _ _ _ _⟩
set_option maxHeartbeats 32000000 in
theorem readEntry_c (s : ByteArray) (w : World) (hs : s.size < 1000000) {v0 : Int} {v1 : ByteArray} {v2 : ByteArray} {v3 : Int} {v4 : Int} {v5 : Int} {v7 : Int} {v8 : Int} {v9 : Int} {v10 : Int} {L : List (List Int)} {r : Nat} (hr : decG csEntry s.data.toList = ([ValN.num v0, ValN.txt v1, ValN.txt v2, ValN.num v3, ValN.num v4, ValN.num v5, ValN.lst L, ValN.num v7, ValN.num v8, ValN.num v9, ValN.num v10], r)) :
    Calls Tryz.prog 86 #[.string s] w fun e w' => ∃ (A : Option Addr) (n cap : Nat), e = .returned (.tuple #[.agg #[.int .i64 v0, .string v1, .string v2, .int .i64 v3, .int .i64 v4, .int .i64 v5, .slice A n cap, .int .i64 v7, .int .i64 v8, .int .u64 v9, .bool (v10 == 1)], .int .i64 (r : Int)]) ∧ Wider w w' ∧ L.length = n ∧ w'.ownsRow w.heap.size 28 1 (.slice A n cap) n (cellsK ksArg L) := by
  have H := (Own.nil (Wider.refl w)).blk #[.int .i64 0, .string ⟨#[]⟩, .string ⟨#[]⟩, .int .i64 0, .int .i64 0, .int .i64 0, .slice none 0 0, .int .i64 0, .int .i64 0, .int .u64 0, .bool false] 39
  have zr := rdEntry_c s (w.alloc (.cells #[.int .i64 0, .string ⟨#[]⟩, .string ⟨#[]⟩, .int .i64 0, .int .i64 0, .int .i64 0, .slice none 0 0, .int .i64 0, .int .i64 0, .int .u64 0, .bool false] 39)) hs hr
  have HH := Lib.hid H
  clear hr H
  go_enter Tryz.func86, Tryz.ntmps86
  go_wp2_with (first
    | (go_at_call 130; (with_reducible refine zr.mono ?_); rintro e wB ⟨A, n, cap, rfl, g1, hLn, hLo⟩; have H1 := HH.out.quiet g1; have hR3 := H1.head)
    | (with_reducible refine wpList_store_row rfl 39 (.tmp 2) (.tmp 6) rfl w.heap.size #[.int .i64 v0, .string v1, .string v2, .int .i64 v3, .int .i64 v4, .int .i64 v5, .slice A n cap, .int .i64 v7, .int .i64 v8, .int .u64 v9, .bool (v10 == 1)] rfl rfl 39 #[.int .i64 0, .string ⟨#[]⟩, .string ⟨#[]⟩, .int .i64 0, .int .i64 0, .int .i64 0, .slice none 0 0, .int .i64 0, .int .i64 0, .int .u64 0, .bool false] hR3 (by kernel_rfl) rfl (by simp [Value.oneCell']) ?_; obtain ⟨g6, h6⟩ := setRow_facts #[.int .i64 v0, .string v1, .string v2, .int .i64 v3, .int .i64 v4, .int .i64 v5, .slice A n cap, .int .i64 v7, .int .i64 v8, .int .u64 v9, .bool (v10 == 1)] hR3))
  have W6w : Wider w _ := g6.wider H1.wider (by intro i m; simp only [List.mem_singleton] at m; omega)
  have d100 := blk_cell h6 0 (v := .int .i64 v0) rfl
  have d101 := blk_cell h6 1 (v := .string v1) rfl
  have d102 := blk_cell h6 2 (v := .string v2) rfl
  have d103 := blk_cell h6 3 (v := .int .i64 v3) rfl
  have d104 := blk_cell h6 4 (v := .int .i64 v4) rfl
  have d105 := blk_cell h6 5 (v := .int .i64 v5) rfl
  have d106 := blk_cell h6 6 (v := .slice A n cap) rfl
  have d107 := blk_cell h6 7 (v := .int .i64 v7) rfl
  have d108 := blk_cell h6 8 (v := .int .i64 v8) rfl
  have d109 := blk_cell h6 9 (v := .int .u64 v9) rfl
  have d110 := blk_cell h6 10 (v := .bool (v10 == 1)) rfl
  simp [bodyPost, results, Tryz.results86, go_sem, d100, d101, d102, d103, d104, d105, d106, d107, d108, d109, d110]
  have hz : (w.alloc (.cells #[.int .i64 0, .string ⟨#[]⟩, .string ⟨#[]⟩, .int .i64 0, .int .i64 0, .int .i64 0, .slice none 0 0, .int .i64 0, .int .i64 0, .int .u64 0, .bool false] 39)).heap.size = w.heap.size + 1 := by simp
  exact ⟨A, n, cap, by simp, W6w, hLn, ownsRow_less (ownsRow_heap hLo fun i hi => g6.heap i (hLo.lt i (by simpa using hi)).2 (by have := (hLo.lt i (by simpa using hi)).1; simp; omega)) (by omega)⟩
end Go.Proofs.YtilpimilbjcifaaGreatDoor

/- Package obj's reader of Block, by walks. -/
namespace Go.Proofs.YtilpimilbjcifaaGreatDoor
set_option linter.unusedVariables false
set_option maxRecDepth 20000
open Go.ChangeShapes Go.WideShapes Go.ChangeAt Go.RowKit Go.Joins
open Go.ChangeMaps (open_string shut_string)
theorem block_gets {W : World} {x : FnP} {B b0 : Nat} (hb : B < b0) (hB : W.heap[B]? = some (.cells #[.int .i64 0, .slice none 0 0] 42 (0, 0)))
    {x0 x1 : FnP} (hR : RecAt b0 W x [x0, x1]) (hp : NumP .i64 2147483647 (by decide) b0 W x0 (⟨B, 0, none⟩ : Addr) ∧ PartV lCode (inL ksInstr) (relL 66 7 ksInstr) b0 W x1 (⟨B, 0 + 1, none⟩ : Addr)) (s : ByteArray) (hs : s.size < 1000000) {v0 : Int} {L : List (List Int)} {r : Nat} (hr : decG csBlock s.data.toList = ([ValN.num v0, ValN.lst L], r)) :
    Enters Tryz.prog x.gf ∧ Calls Tryz.prog x.gf (#[.string s] ++ x.gc) W fun e w' => e = .returned (.int .i64 (r : Int)) ∧ WBut [B] W w' ∧ (r = 0 → ∃ (A : Option Addr) (n cap : Nat), w'.heap[B]? = some (.cells #[.int .i64 v0, .slice A n cap] 42 (0, 0)) ∧ L.length = n ∧ w'.ownsRow (B + 1) 66 7 (.slice A n cap) n (cellsK ksInstr L)) := by
  obtain ⟨h0, h1⟩ := hp
  have k := recget_c (B := B) hR (cs := csBlock) (os := [0, 1]) (Rs := [relV .i64, relL 66 7 ksInstr]) rfl rfl rfl (by decide) (by
    intro R hR
    simp only [List.mem_cons, List.not_mem_nil, or_false] at hR
    rcases hR with rfl | rfl
    · exact relV_S _
    · exact relL_S _ _ _
    ) (by decide) (fun k p c o R e1 e2 e3 e4 => by
    match k, e1, e2, e3, e4 with
    | 0, e1, e2, e3, e4 =>
      simp [csBlock] at e1 e2 e3 e4
      subst e1 e2 e3 e4
      exact h0.part.get
    | 1, e1, e2, e3, e4 =>
      simp [csBlock] at e1 e2 e3 e4
      subst e1 e2 e3 e4
      exact h1.get
    | k + 2, e1, e2, e3, e4 => simp at e1) hb
  refine ⟨k.1, (k.2 W _ _ (Keeps.refl _ _) hB (by decide) ?_ s hs _ r hr).mono ?_⟩
  · intro k o R y e1 e2 e3
    match k, e1, e2, e3 with
    | 0, e1, e2, e3 =>
      simp [csBlock, zeroG] at e1 e2 e3
      subst e1 e2 e3
      exact ⟨_, rfl, 0, rfl, rfl⟩
    | 1, e1, e2, e3 =>
      simp [csBlock, zeroG] at e1 e2 e3
      subst e1 e2 e3
      exact ⟨_, rfl, none, 0, 0, [], rfl, rfl, rfl, World.ownsRow_nil _ _ _ _⟩
    | k + 2, e1, e2, e3 => simp at e1
  · rintro e w3 ⟨rfl, g3, h⟩
    refine ⟨rfl, g3, fun h0 => ?_⟩
    obtain ⟨C', hC, hs', _, hst⟩ := h h0
    obtain ⟨u0, hu0, hv0⟩ := hst 0 0 _ _ rfl rfl rfl
    obtain ⟨n0, q0, rfl⟩ := hv0
    injection q0 with q0
    subst q0
    obtain ⟨u1, hu1, hv1⟩ := hst 1 1 _ _ rfl rfl rfl
    obtain ⟨A, n, cap, L2, rfl, qL, hLn, hLo⟩ := hv1
    injection qL with qL
    subst qL
    have e : C' = #[.int .i64 v0, .slice A n cap] := by
      refine arr_of hs' fun i hi => ?_
      have hi : i < 2 := hi
      match i, hi with
      | 0, _ => exact hu0
      | 1, _ => exact hu1
      | i + 2, h => omega
    subst e
    exact ⟨A, n, cap, hC, hLn, hLo⟩
set_option maxHeartbeats 32000000 in
theorem rdBlock_c (s : ByteArray) (w : World) (hs : s.size < 1000000) {v0 : Int} {L : List (List Int)} {r : Nat} (hr : decG csBlock s.data.toList = ([ValN.num v0, ValN.lst L], r)) :
    Calls Tryz.prog 132 #[.string s, .func (.func 133) #[] #[]] w fun e w' => ∃ (A : Option Addr) (n cap : Nat), e = .returned (.tuple #[.agg #[.int .i64 v0, .slice A n cap], .int .i64 (r : Int)]) ∧ Wider w w' ∧ L.length = n ∧ w'.ownsRow w.heap.size 66 7 (.slice A n cap) n (cellsK ksInstr L) := by
  have H := (((Own.nil (Wider.refl w)).blk #[.int .i64 0, .slice none 0 0] 42).blk #[.int .i64 0, .slice none 0 0] 42).blk #[.int .i64 0, .slice none 0 0] 42
  have z1 : (w.alloc (.cells #[.int .i64 0, .slice none 0 0] 42)).heap.size = w.heap.size + 1 := by simp
  have z2 : ((w.alloc (.cells #[.int .i64 0, .slice none 0 0] 42)).alloc (.cells #[.int .i64 0, .slice none 0 0] 42)).heap.size = w.heap.size + 2 := by simp
  rw [z1, z2] at H
  have z3 : (((w.alloc (.cells #[.int .i64 0, .slice none 0 0] 42)).alloc (.cells #[.int .i64 0, .slice none 0 0] 42)).alloc (.cells #[.int .i64 0, .slice none 0 0] 42)).heap.size = w.heap.size + 3 := by simp
  have zs := block_s (((w.alloc (.cells #[.int .i64 0, .slice none 0 0] 42)).alloc (.cells #[.int .i64 0, .slice none 0 0] 42)).alloc (.cells #[.int .i64 0, .slice none 0 0] 42)) ⟨w.heap.size + 1, 0, none⟩
  rw [z3] at zs
  have hbad := decG_bad csBlock s.data.toList
  rw [hr] at hbad
  have hfg := fld_get
  have HR := Lib.hid hr
  have HBAD := Lib.hid hbad
  have HH := Lib.hid H
  clear z1 z2 z3 hr hbad H
  by_cases r0 : r = 0
  · subst r0
    go_enter Tryz.func132, Tryz.ntmps132
    go_wp2_with (first
      | (go_at_call 133; (with_reducible refine zs.mono ?_); rintro e wA ⟨x, rfl, g1, x0, x1, hR, hp⟩; have H1 := HH.out.quiet g1; have hq := block_gets (B := w.heap.size + 1) (by omega) H1.second hR hp s hs HR.out; have ent : ∀ (args : Array Value) (w : World), (callFunc x.gf args).run Tryz.prog w = .ok (.enter x.gf args) w := hq.1; have hq2 := hq.2; clear hq hR hp)
      | (go_at_fn x.gf; (with_reducible refine hq2.mono ?_); rintro e wB ⟨rfl, g2, hz⟩; obtain ⟨A, n, cap, hX, hLn, hLo⟩ := hz (by trivial); have hR3 := but_blk H1.drop.drop.head g2 (by omega))
      | (with_reducible refine wpList_load_row rfl 42 (.tmp 6) rfl (w.heap.size + 1) rfl 42 #[.int .i64 v0, .slice A n cap] (0, 0) _ hX Tryz.underlying42 rfl (by kernel_rfl) ?_)
      | (with_reducible refine wpList_store_row rfl 42 (.tmp 4) (.tmp 18) rfl w.heap.size #[.int .i64 v0, .slice A n cap] rfl rfl 42 #[.int .i64 0, .slice none 0 0] hR3 (by kernel_rfl) rfl (by simp [Value.oneCell']) ?_; obtain ⟨g6, h6⟩ := setRow_facts #[.int .i64 v0, .slice A n cap] hR3))
    have hsz : wB.heap.size > w.heap.size := by have := g2.size; have := (Array.getElem?_eq_some_iff.1 H1.drop.drop.head).1; omega
    have W5 : Wider w wB := g2.wider H1.wider (by intro i m; simp only [List.mem_singleton] at m; omega)
    have W6w : Wider w _ := g6.wider W5 (by intro i m; simp only [List.mem_singleton] at m; omega)
    have d100 := blk_cell h6 0 (v := .int .i64 v0) rfl
    have d101 := blk_cell h6 1 (v := .slice A n cap) rfl
    simp [bodyPost, results, Tryz.results132, go_sem, d100, d101]
    exact ⟨A, n, cap, by simp, W6w, hLn, ownsRow_less (b := w.heap.size + 1 + 1) (ownsRow_heap hLo fun i hi => g6.heap i (hLo.lt i (by simpa using hi)).2 (by have := (hLo.lt i (by simpa using hi)).1; simp; omega)) (by omega)⟩
  · have hzv : [ValN.num v0, ValN.lst L] = [ValN.num 0, ValN.lst []] ∧ (r = 3 ∨ r = 4) := by
      rcases HBAD.out with h | ⟨h1, h2⟩
      · exact absurd h r0
      · exact ⟨h1, h2⟩
    obtain ⟨hzv, _⟩ := hzv
    simp only [ValN.num.injEq, ValN.lst.injEq, List.cons.injEq, and_true] at hzv
    obtain ⟨rfl, rfl⟩ := hzv
    have d0 : ((r : Int) == 0) = false := by rw [beq_eq_false_iff_ne]; omega
    go_enter Tryz.func132, Tryz.ntmps132
    go_wp2_with (first
      | (go_at_call 133; (with_reducible refine zs.mono ?_); rintro e wA ⟨x, rfl, g1, x0, x1, hR, hp⟩; have H1 := HH.out.quiet g1; have hq := block_gets (B := w.heap.size + 1) (by omega) H1.second hR hp s hs HR.out; have ent : ∀ (args : Array Value) (w : World), (callFunc x.gf args).run Tryz.prog w = .ok (.enter x.gf args) w := hq.1; have hq2 := hq.2; clear hq hR hp)
      | (go_at_fn x.gf; (with_reducible refine hq2.mono ?_); rintro e wB ⟨rfl, g2, hz⟩; have hX := but_blk H1.head g2 (by omega); have hR3 := but_blk H1.drop.drop.head g2 (by omega))
      | (with_reducible refine wpList_load_row rfl 42 (.tmp 7) rfl (w.heap.size + 1 + 1) rfl 42 #[.int .i64 0, .slice none 0 0] (0, 0) _ hX Tryz.underlying42 rfl (by kernel_rfl) ?_)
      | (with_reducible refine wpList_store_row rfl 42 (.tmp 4) (.tmp 16) rfl w.heap.size #[.int .i64 0, .slice none 0 0] rfl rfl 42 #[.int .i64 0, .slice none 0 0] hR3 (by kernel_rfl) rfl (by simp [Value.oneCell']) ?_; obtain ⟨g6, h6⟩ := setRow_facts #[.int .i64 0, .slice none 0 0] hR3))
    have hsz : wB.heap.size > w.heap.size := by have := g2.size; have := (Array.getElem?_eq_some_iff.1 H1.drop.drop.head).1; omega
    have W5 : Wider w wB := g2.wider H1.wider (by intro i m; simp only [List.mem_singleton] at m; omega)
    have W6w : Wider w _ := g6.wider W5 (by intro i m; simp only [List.mem_singleton] at m; omega)
    have d100 := blk_cell h6 0 (v := .int .i64 0) rfl
    have d101 := blk_cell h6 1 (v := .slice none 0 0) rfl
    simp [bodyPost, results, Tryz.results132, go_sem, d100, d101]
    exact ⟨none, 0, 0, by simp, W6w, rfl, World.ownsRow_nil _ _ _ _⟩
set_option maxHeartbeats 32000000 in
theorem readBlock_c (s : ByteArray) (w : World) (hs : s.size < 1000000) {v0 : Int} {L : List (List Int)} {r : Nat} (hr : decG csBlock s.data.toList = ([ValN.num v0, ValN.lst L], r)) :
    Calls Tryz.prog 87 #[.string s] w fun e w' => ∃ (A : Option Addr) (n cap : Nat), e = .returned (.tuple #[.agg #[.int .i64 v0, .slice A n cap], .int .i64 (r : Int)]) ∧ Wider w w' ∧ L.length = n ∧ w'.ownsRow w.heap.size 66 7 (.slice A n cap) n (cellsK ksInstr L) := by
  have H := (Own.nil (Wider.refl w)).blk #[.int .i64 0, .slice none 0 0] 42
  have zr := rdBlock_c s (w.alloc (.cells #[.int .i64 0, .slice none 0 0] 42)) hs hr
  have HH := Lib.hid H
  clear hr H
  go_enter Tryz.func87, Tryz.ntmps87
  go_wp2_with (first
    | (go_at_call 132; (with_reducible refine zr.mono ?_); rintro e wB ⟨A, n, cap, rfl, g1, hLn, hLo⟩; have H1 := HH.out.quiet g1; have hR3 := H1.head)
    | (with_reducible refine wpList_store_row rfl 42 (.tmp 2) (.tmp 6) rfl w.heap.size #[.int .i64 v0, .slice A n cap] rfl rfl 42 #[.int .i64 0, .slice none 0 0] hR3 (by kernel_rfl) rfl (by simp [Value.oneCell']) ?_; obtain ⟨g6, h6⟩ := setRow_facts #[.int .i64 v0, .slice A n cap] hR3))
  have W6w : Wider w _ := g6.wider H1.wider (by intro i m; simp only [List.mem_singleton] at m; omega)
  have d100 := blk_cell h6 0 (v := .int .i64 v0) rfl
  have d101 := blk_cell h6 1 (v := .slice A n cap) rfl
  simp [bodyPost, results, Tryz.results87, go_sem, d100, d101]
  have hz : (w.alloc (.cells #[.int .i64 0, .slice none 0 0] 42)).heap.size = w.heap.size + 1 := by simp
  exact ⟨A, n, cap, by simp, W6w, hLn, ownsRow_less (ownsRow_heap hLo fun i hi => g6.heap i (hLo.lt i (by simpa using hi)).2 (by have := (hLo.lt i (by simpa using hi)).1; simp; omega)) (by omega)⟩
end Go.Proofs.YtilpimilbjcifaaGreatDoor

/- Package obj's reader of Group, by walks. -/
namespace Go.Proofs.YtilpimilbjcifaaGreatDoor
set_option linter.unusedVariables false
set_option maxRecDepth 20000
open Go.ChangeShapes Go.WideShapes Go.ChangeAt Go.RowKit Go.Joins
open Go.ChangeMaps (open_string shut_string)
theorem group_gets {W : World} {x : FnP} {B b0 : Nat} (hb : B < b0) (hB : W.heap[B]? = some (.cells #[.int .i64 0, .int .u8 0, .int .i64 0, .slice none 0 0] 45 (0, 0)))
    {x0 x1 x2 x3 : FnP} (hR : RecAt b0 W x [x0, x1, x2, x3]) (hp : NumP .i64 2147483647 (by decide) b0 W x0 (⟨B, 0, none⟩ : Addr) ∧ NumP .u8 255 (by decide) b0 W x1 (⟨B, 0 + 1, none⟩ : Addr) ∧ NumP .i64 2147483647 (by decide) b0 W x2 (⟨B, 0 + 2, none⟩ : Addr) ∧ PartV lBuckets (inL ksBucket) (relL 150 2 ksBucket) b0 W x3 (⟨B, 0 + 3, none⟩ : Addr)) (s : ByteArray) (hs : s.size < 1000000) {v0 : Int} {v1 : Int} {v2 : Int} {L : List (List Int)} {r : Nat} (hr : decG csGroup s.data.toList = ([ValN.num v0, ValN.num v1, ValN.num v2, ValN.lst L], r)) :
    Enters Tryz.prog x.gf ∧ Calls Tryz.prog x.gf (#[.string s] ++ x.gc) W fun e w' => e = .returned (.int .i64 (r : Int)) ∧ WBut [B] W w' ∧ (r = 0 → ∃ (A : Option Addr) (n cap : Nat), w'.heap[B]? = some (.cells #[.int .i64 v0, .int .u8 v1, .int .i64 v2, .slice A n cap] 45 (0, 0)) ∧ L.length = n ∧ w'.ownsRow (B + 1) 150 2 (.slice A n cap) n (cellsK ksBucket L)) := by
  obtain ⟨h0, h1, h2, h3⟩ := hp
  have k := recget_c (B := B) hR (cs := csGroup) (os := [0, 1, 2, 3]) (Rs := [relV .i64, relV .u8, relV .i64, relL 150 2 ksBucket]) rfl rfl rfl (by decide) (by
    intro R hR
    simp only [List.mem_cons, List.not_mem_nil, or_false] at hR
    rcases hR with rfl | rfl | rfl | rfl
    · exact relV_S _
    · exact relV_S _
    · exact relV_S _
    · exact relL_S _ _ _
    ) (by decide) (fun k p c o R e1 e2 e3 e4 => by
    match k, e1, e2, e3, e4 with
    | 0, e1, e2, e3, e4 =>
      simp [csGroup] at e1 e2 e3 e4
      subst e1 e2 e3 e4
      exact h0.part.get
    | 1, e1, e2, e3, e4 =>
      simp [csGroup] at e1 e2 e3 e4
      subst e1 e2 e3 e4
      exact h1.part.get
    | 2, e1, e2, e3, e4 =>
      simp [csGroup] at e1 e2 e3 e4
      subst e1 e2 e3 e4
      exact h2.part.get
    | 3, e1, e2, e3, e4 =>
      simp [csGroup] at e1 e2 e3 e4
      subst e1 e2 e3 e4
      exact h3.get
    | k + 4, e1, e2, e3, e4 => simp at e1) hb
  refine ⟨k.1, (k.2 W _ _ (Keeps.refl _ _) hB (by decide) ?_ s hs _ r hr).mono ?_⟩
  · intro k o R y e1 e2 e3
    match k, e1, e2, e3 with
    | 0, e1, e2, e3 =>
      simp [csGroup, zeroG] at e1 e2 e3
      subst e1 e2 e3
      exact ⟨_, rfl, 0, rfl, rfl⟩
    | 1, e1, e2, e3 =>
      simp [csGroup, zeroG] at e1 e2 e3
      subst e1 e2 e3
      exact ⟨_, rfl, 0, rfl, rfl⟩
    | 2, e1, e2, e3 =>
      simp [csGroup, zeroG] at e1 e2 e3
      subst e1 e2 e3
      exact ⟨_, rfl, 0, rfl, rfl⟩
    | 3, e1, e2, e3 =>
      simp [csGroup, zeroG] at e1 e2 e3
      subst e1 e2 e3
      exact ⟨_, rfl, none, 0, 0, [], rfl, rfl, rfl, World.ownsRow_nil _ _ _ _⟩
    | k + 4, e1, e2, e3 => simp at e1
  · rintro e w3 ⟨rfl, g3, h⟩
    refine ⟨rfl, g3, fun h0 => ?_⟩
    obtain ⟨C', hC, hs', _, hst⟩ := h h0
    obtain ⟨u0, hu0, hv0⟩ := hst 0 0 _ _ rfl rfl rfl
    obtain ⟨n0, q0, rfl⟩ := hv0
    injection q0 with q0
    subst q0
    obtain ⟨u1, hu1, hv1⟩ := hst 1 1 _ _ rfl rfl rfl
    obtain ⟨n1, q1, rfl⟩ := hv1
    injection q1 with q1
    subst q1
    obtain ⟨u2, hu2, hv2⟩ := hst 2 2 _ _ rfl rfl rfl
    obtain ⟨n2, q2, rfl⟩ := hv2
    injection q2 with q2
    subst q2
    obtain ⟨u3, hu3, hv3⟩ := hst 3 3 _ _ rfl rfl rfl
    obtain ⟨A, n, cap, L2, rfl, qL, hLn, hLo⟩ := hv3
    injection qL with qL
    subst qL
    have e : C' = #[.int .i64 v0, .int .u8 v1, .int .i64 v2, .slice A n cap] := by
      refine arr_of hs' fun i hi => ?_
      have hi : i < 4 := hi
      match i, hi with
      | 0, _ => exact hu0
      | 1, _ => exact hu1
      | 2, _ => exact hu2
      | 3, _ => exact hu3
      | i + 4, h => omega
    subst e
    exact ⟨A, n, cap, hC, hLn, hLo⟩
set_option maxHeartbeats 32000000 in
theorem rdGroup_c (s : ByteArray) (w : World) (hs : s.size < 1000000) {v0 : Int} {v1 : Int} {v2 : Int} {L : List (List Int)} {r : Nat} (hr : decG csGroup s.data.toList = ([ValN.num v0, ValN.num v1, ValN.num v2, ValN.lst L], r)) :
    Calls Tryz.prog 134 #[.string s, .func (.func 135) #[] #[]] w fun e w' => ∃ (A : Option Addr) (n cap : Nat), e = .returned (.tuple #[.agg #[.int .i64 v0, .int .u8 v1, .int .i64 v2, .slice A n cap], .int .i64 (r : Int)]) ∧ Wider w w' ∧ L.length = n ∧ w'.ownsRow w.heap.size 150 2 (.slice A n cap) n (cellsK ksBucket L) := by
  have H := (((Own.nil (Wider.refl w)).blk #[.int .i64 0, .int .u8 0, .int .i64 0, .slice none 0 0] 45).blk #[.int .i64 0, .int .u8 0, .int .i64 0, .slice none 0 0] 45).blk #[.int .i64 0, .int .u8 0, .int .i64 0, .slice none 0 0] 45
  have z1 : (w.alloc (.cells #[.int .i64 0, .int .u8 0, .int .i64 0, .slice none 0 0] 45)).heap.size = w.heap.size + 1 := by simp
  have z2 : ((w.alloc (.cells #[.int .i64 0, .int .u8 0, .int .i64 0, .slice none 0 0] 45)).alloc (.cells #[.int .i64 0, .int .u8 0, .int .i64 0, .slice none 0 0] 45)).heap.size = w.heap.size + 2 := by simp
  rw [z1, z2] at H
  have z3 : (((w.alloc (.cells #[.int .i64 0, .int .u8 0, .int .i64 0, .slice none 0 0] 45)).alloc (.cells #[.int .i64 0, .int .u8 0, .int .i64 0, .slice none 0 0] 45)).alloc (.cells #[.int .i64 0, .int .u8 0, .int .i64 0, .slice none 0 0] 45)).heap.size = w.heap.size + 3 := by simp
  have zs := group_s (((w.alloc (.cells #[.int .i64 0, .int .u8 0, .int .i64 0, .slice none 0 0] 45)).alloc (.cells #[.int .i64 0, .int .u8 0, .int .i64 0, .slice none 0 0] 45)).alloc (.cells #[.int .i64 0, .int .u8 0, .int .i64 0, .slice none 0 0] 45)) ⟨w.heap.size + 1, 0, none⟩
  rw [z3] at zs
  have hbad := decG_bad csGroup s.data.toList
  rw [hr] at hbad
  have hfg := fld_get
  have HR := Lib.hid hr
  have HBAD := Lib.hid hbad
  have HH := Lib.hid H
  clear z1 z2 z3 hr hbad H
  by_cases r0 : r = 0
  · subst r0
    go_enter Tryz.func134, Tryz.ntmps134
    go_wp2_with (first
      | (go_at_call 135; (with_reducible refine zs.mono ?_); rintro e wA ⟨x, rfl, g1, x0, x1, x2, x3, hR, hp⟩; have H1 := HH.out.quiet g1; have hq := group_gets (B := w.heap.size + 1) (by omega) H1.second hR hp s hs HR.out; have ent : ∀ (args : Array Value) (w : World), (callFunc x.gf args).run Tryz.prog w = .ok (.enter x.gf args) w := hq.1; have hq2 := hq.2; clear hq hR hp)
      | (go_at_fn x.gf; (with_reducible refine hq2.mono ?_); rintro e wB ⟨rfl, g2, hz⟩; obtain ⟨A, n, cap, hX, hLn, hLo⟩ := hz (by trivial); have hR3 := but_blk H1.drop.drop.head g2 (by omega))
      | (with_reducible refine wpList_load_row rfl 45 (.tmp 6) rfl (w.heap.size + 1) rfl 45 #[.int .i64 v0, .int .u8 v1, .int .i64 v2, .slice A n cap] (0, 0) _ hX Tryz.underlying45 rfl (by kernel_rfl) ?_)
      | (with_reducible refine wpList_store_row rfl 45 (.tmp 4) (.tmp 18) rfl w.heap.size #[.int .i64 v0, .int .u8 v1, .int .i64 v2, .slice A n cap] rfl rfl 45 #[.int .i64 0, .int .u8 0, .int .i64 0, .slice none 0 0] hR3 (by kernel_rfl) rfl (by simp [Value.oneCell']) ?_; obtain ⟨g6, h6⟩ := setRow_facts #[.int .i64 v0, .int .u8 v1, .int .i64 v2, .slice A n cap] hR3))
    have hsz : wB.heap.size > w.heap.size := by have := g2.size; have := (Array.getElem?_eq_some_iff.1 H1.drop.drop.head).1; omega
    have W5 : Wider w wB := g2.wider H1.wider (by intro i m; simp only [List.mem_singleton] at m; omega)
    have W6w : Wider w _ := g6.wider W5 (by intro i m; simp only [List.mem_singleton] at m; omega)
    have d100 := blk_cell h6 0 (v := .int .i64 v0) rfl
    have d101 := blk_cell h6 1 (v := .int .u8 v1) rfl
    have d102 := blk_cell h6 2 (v := .int .i64 v2) rfl
    have d103 := blk_cell h6 3 (v := .slice A n cap) rfl
    simp [bodyPost, results, Tryz.results134, go_sem, d100, d101, d102, d103]
    exact ⟨A, n, cap, by simp, W6w, hLn, ownsRow_less (b := w.heap.size + 1 + 1) (ownsRow_heap hLo fun i hi => g6.heap i (hLo.lt i (by simpa using hi)).2 (by have := (hLo.lt i (by simpa using hi)).1; simp; omega)) (by omega)⟩
  · have hzv : [ValN.num v0, ValN.num v1, ValN.num v2, ValN.lst L] = [ValN.num 0, ValN.num 0, ValN.num 0, ValN.lst []] ∧ (r = 3 ∨ r = 4) := by
      rcases HBAD.out with h | ⟨h1, h2⟩
      · exact absurd h r0
      · exact ⟨h1, h2⟩
    obtain ⟨hzv, _⟩ := hzv
    simp only [ValN.num.injEq, ValN.lst.injEq, List.cons.injEq, and_true] at hzv
    obtain ⟨rfl, rfl, rfl, rfl⟩ := hzv
    have d0 : ((r : Int) == 0) = false := by rw [beq_eq_false_iff_ne]; omega
    go_enter Tryz.func134, Tryz.ntmps134
    go_wp2_with (first
      | (go_at_call 135; (with_reducible refine zs.mono ?_); rintro e wA ⟨x, rfl, g1, x0, x1, x2, x3, hR, hp⟩; have H1 := HH.out.quiet g1; have hq := group_gets (B := w.heap.size + 1) (by omega) H1.second hR hp s hs HR.out; have ent : ∀ (args : Array Value) (w : World), (callFunc x.gf args).run Tryz.prog w = .ok (.enter x.gf args) w := hq.1; have hq2 := hq.2; clear hq hR hp)
      | (go_at_fn x.gf; (with_reducible refine hq2.mono ?_); rintro e wB ⟨rfl, g2, hz⟩; have hX := but_blk H1.head g2 (by omega); have hR3 := but_blk H1.drop.drop.head g2 (by omega))
      | (with_reducible refine wpList_load_row rfl 45 (.tmp 7) rfl (w.heap.size + 1 + 1) rfl 45 #[.int .i64 0, .int .u8 0, .int .i64 0, .slice none 0 0] (0, 0) _ hX Tryz.underlying45 rfl (by kernel_rfl) ?_)
      | (with_reducible refine wpList_store_row rfl 45 (.tmp 4) (.tmp 16) rfl w.heap.size #[.int .i64 0, .int .u8 0, .int .i64 0, .slice none 0 0] rfl rfl 45 #[.int .i64 0, .int .u8 0, .int .i64 0, .slice none 0 0] hR3 (by kernel_rfl) rfl (by simp [Value.oneCell']) ?_; obtain ⟨g6, h6⟩ := setRow_facts #[.int .i64 0, .int .u8 0, .int .i64 0, .slice none 0 0] hR3))
    have hsz : wB.heap.size > w.heap.size := by have := g2.size; have := (Array.getElem?_eq_some_iff.1 H1.drop.drop.head).1; omega
    have W5 : Wider w wB := g2.wider H1.wider (by intro i m; simp only [List.mem_singleton] at m; omega)
    have W6w : Wider w _ := g6.wider W5 (by intro i m; simp only [List.mem_singleton] at m; omega)
    have d100 := blk_cell h6 0 (v := .int .i64 0) rfl
    have d101 := blk_cell h6 1 (v := .int .u8 0) rfl
    have d102 := blk_cell h6 2 (v := .int .i64 0) rfl
    have d103 := blk_cell h6 3 (v := .slice none 0 0) rfl
    simp [bodyPost, results, Tryz.results134, go_sem, d100, d101, d102, d103]
    exact ⟨none, 0, 0, by simp, W6w, rfl, World.ownsRow_nil _ _ _ _⟩
set_option maxHeartbeats 32000000 in
theorem readGroup_c (s : ByteArray) (w : World) (hs : s.size < 1000000) {v0 : Int} {v1 : Int} {v2 : Int} {L : List (List Int)} {r : Nat} (hr : decG csGroup s.data.toList = ([ValN.num v0, ValN.num v1, ValN.num v2, ValN.lst L], r)) :
    Calls Tryz.prog 88 #[.string s] w fun e w' => ∃ (A : Option Addr) (n cap : Nat), e = .returned (.tuple #[.agg #[.int .i64 v0, .int .u8 v1, .int .i64 v2, .slice A n cap], .int .i64 (r : Int)]) ∧ Wider w w' ∧ L.length = n ∧ w'.ownsRow w.heap.size 150 2 (.slice A n cap) n (cellsK ksBucket L) := by
  have H := (Own.nil (Wider.refl w)).blk #[.int .i64 0, .int .u8 0, .int .i64 0, .slice none 0 0] 45
  have zr := rdGroup_c s (w.alloc (.cells #[.int .i64 0, .int .u8 0, .int .i64 0, .slice none 0 0] 45)) hs hr
  have HH := Lib.hid H
  clear hr H
  go_enter Tryz.func88, Tryz.ntmps88
  go_wp2_with (first
    | (go_at_call 134; (with_reducible refine zr.mono ?_); rintro e wB ⟨A, n, cap, rfl, g1, hLn, hLo⟩; have H1 := HH.out.quiet g1; have hR3 := H1.head)
    | (with_reducible refine wpList_store_row rfl 45 (.tmp 2) (.tmp 6) rfl w.heap.size #[.int .i64 v0, .int .u8 v1, .int .i64 v2, .slice A n cap] rfl rfl 45 #[.int .i64 0, .int .u8 0, .int .i64 0, .slice none 0 0] hR3 (by kernel_rfl) rfl (by simp [Value.oneCell']) ?_; obtain ⟨g6, h6⟩ := setRow_facts #[.int .i64 v0, .int .u8 v1, .int .i64 v2, .slice A n cap] hR3))
  have W6w : Wider w _ := g6.wider H1.wider (by intro i m; simp only [List.mem_singleton] at m; omega)
  have d100 := blk_cell h6 0 (v := .int .i64 v0) rfl
  have d101 := blk_cell h6 1 (v := .int .u8 v1) rfl
  have d102 := blk_cell h6 2 (v := .int .i64 v2) rfl
  have d103 := blk_cell h6 3 (v := .slice A n cap) rfl
  simp [bodyPost, results, Tryz.results88, go_sem, d100, d101, d102, d103]
  have hz : (w.alloc (.cells #[.int .i64 0, .int .u8 0, .int .i64 0, .slice none 0 0] 45)).heap.size = w.heap.size + 1 := by simp
  exact ⟨A, n, cap, by simp, W6w, hLn, ownsRow_less (ownsRow_heap hLo fun i hi => g6.heap i (hLo.lt i (by simpa using hi)).2 (by have := (hLo.lt i (by simpa using hi)).1; simp; omega)) (by omega)⟩
end Go.Proofs.YtilpimilbjcifaaGreatDoor

/- Package obj's reader of Meter, by walks. -/
namespace Go.Proofs.YtilpimilbjcifaaGreatDoor
set_option linter.unusedVariables false
set_option maxRecDepth 20000
open Go.ChangeShapes Go.WideShapes Go.ChangeAt Go.RowKit Go.Joins
open Go.ChangeMaps (open_string shut_string)
theorem meter_gets {W : World} {x : FnP} {B b0 : Nat} (hb : B < b0) (hB : W.heap[B]? = some (.cells #[.int .i64 0, .int .i64 0, .int .i64 0] 47 (0, 0)))
    {x0 x1 x2 : FnP} (hR : RecAt b0 W x [x0, x1, x2]) (hp : NumP .i64 2147483647 (by decide) b0 W x0 (⟨B, 0, none⟩ : Addr) ∧ NumP .i64 9223372036854775807 (by decide) b0 W x1 (⟨B, 0 + 1, none⟩ : Addr) ∧ NumP .i64 9223372036854775807 (by decide) b0 W x2 (⟨B, 0 + 2, none⟩ : Addr)) (s : ByteArray) (hs : s.size < 1000000) {v0 : Int} {v1 : Int} {v2 : Int} {r : Nat} (hr : decG csMeter s.data.toList = ([ValN.num v0, ValN.num v1, ValN.num v2], r)) :
    Enters Tryz.prog x.gf ∧ Calls Tryz.prog x.gf (#[.string s] ++ x.gc) W fun e w' => e = .returned (.int .i64 (r : Int)) ∧ WBut [B] W w' ∧ (r = 0 → w'.heap[B]? = some (.cells #[.int .i64 v0, .int .i64 v1, .int .i64 v2] 47 (0, 0))) := by
  obtain ⟨h0, h1, h2⟩ := hp
  have k := recget_c (B := B) hR (cs := csMeter) (os := [0, 1, 2]) (Rs := [relV .i64, relV .i64, relV .i64]) rfl rfl rfl (by decide) (by
    intro R hR
    simp only [List.mem_cons, List.not_mem_nil, or_false] at hR
    rcases hR with rfl | rfl | rfl
    · exact relV_S _
    · exact relV_S _
    · exact relV_S _
    ) (by decide) (fun k p c o R e1 e2 e3 e4 => by
    match k, e1, e2, e3, e4 with
    | 0, e1, e2, e3, e4 =>
      simp [csMeter] at e1 e2 e3 e4
      subst e1 e2 e3 e4
      exact h0.part.get
    | 1, e1, e2, e3, e4 =>
      simp [csMeter] at e1 e2 e3 e4
      subst e1 e2 e3 e4
      exact h1.part.get
    | 2, e1, e2, e3, e4 =>
      simp [csMeter] at e1 e2 e3 e4
      subst e1 e2 e3 e4
      exact h2.part.get
    | k + 3, e1, e2, e3, e4 => simp at e1) hb
  refine ⟨k.1, (k.2 W _ _ (Keeps.refl _ _) hB (by decide) ?_ s hs _ r hr).mono ?_⟩
  · intro k o R y e1 e2 e3
    match k, e1, e2, e3 with
    | 0, e1, e2, e3 =>
      simp [csMeter, zeroG] at e1 e2 e3
      subst e1 e2 e3
      exact ⟨_, rfl, 0, rfl, rfl⟩
    | 1, e1, e2, e3 =>
      simp [csMeter, zeroG] at e1 e2 e3
      subst e1 e2 e3
      exact ⟨_, rfl, 0, rfl, rfl⟩
    | 2, e1, e2, e3 =>
      simp [csMeter, zeroG] at e1 e2 e3
      subst e1 e2 e3
      exact ⟨_, rfl, 0, rfl, rfl⟩
    | k + 3, e1, e2, e3 => simp at e1
  · rintro e w3 ⟨rfl, g3, h⟩
    refine ⟨rfl, g3, fun h0 => ?_⟩
    obtain ⟨C', hC, hs', _, hst⟩ := h h0
    obtain ⟨u0, hu0, hv0⟩ := hst 0 0 _ _ rfl rfl rfl
    obtain ⟨n0, q0, rfl⟩ := hv0
    injection q0 with q0
    subst q0
    obtain ⟨u1, hu1, hv1⟩ := hst 1 1 _ _ rfl rfl rfl
    obtain ⟨n1, q1, rfl⟩ := hv1
    injection q1 with q1
    subst q1
    obtain ⟨u2, hu2, hv2⟩ := hst 2 2 _ _ rfl rfl rfl
    obtain ⟨n2, q2, rfl⟩ := hv2
    injection q2 with q2
    subst q2
    have e : C' = #[.int .i64 v0, .int .i64 v1, .int .i64 v2] := by
      refine arr_of hs' fun i hi => ?_
      have hi : i < 3 := hi
      match i, hi with
      | 0, _ => exact hu0
      | 1, _ => exact hu1
      | 2, _ => exact hu2
      | i + 3, h => omega
    subst e
    exact hC
set_option maxHeartbeats 32000000 in
theorem rdMeter_c (s : ByteArray) (w : World) (hs : s.size < 1000000) {v0 : Int} {v1 : Int} {v2 : Int} {r : Nat} (hr : decG csMeter s.data.toList = ([ValN.num v0, ValN.num v1, ValN.num v2], r)) :
    Calls Tryz.prog 136 #[.string s, .func (.func 137) #[] #[]] w fun e w' => e = .returned (.tuple #[.agg #[.int .i64 v0, .int .i64 v1, .int .i64 v2], .int .i64 (r : Int)]) ∧ Wider w w' := by
  have H := (((Own.nil (Wider.refl w)).blk #[.int .i64 0, .int .i64 0, .int .i64 0] 47).blk #[.int .i64 0, .int .i64 0, .int .i64 0] 47).blk #[.int .i64 0, .int .i64 0, .int .i64 0] 47
  have z1 : (w.alloc (.cells #[.int .i64 0, .int .i64 0, .int .i64 0] 47)).heap.size = w.heap.size + 1 := by simp
  have z2 : ((w.alloc (.cells #[.int .i64 0, .int .i64 0, .int .i64 0] 47)).alloc (.cells #[.int .i64 0, .int .i64 0, .int .i64 0] 47)).heap.size = w.heap.size + 2 := by simp
  rw [z1, z2] at H
  have z3 : (((w.alloc (.cells #[.int .i64 0, .int .i64 0, .int .i64 0] 47)).alloc (.cells #[.int .i64 0, .int .i64 0, .int .i64 0] 47)).alloc (.cells #[.int .i64 0, .int .i64 0, .int .i64 0] 47)).heap.size = w.heap.size + 3 := by simp
  have zs := meter_s (((w.alloc (.cells #[.int .i64 0, .int .i64 0, .int .i64 0] 47)).alloc (.cells #[.int .i64 0, .int .i64 0, .int .i64 0] 47)).alloc (.cells #[.int .i64 0, .int .i64 0, .int .i64 0] 47)) ⟨w.heap.size + 1, 0, none⟩
  rw [z3] at zs
  have hbad := decG_bad csMeter s.data.toList
  rw [hr] at hbad
  have hfg := fld_get
  have HR := Lib.hid hr
  have HBAD := Lib.hid hbad
  have HH := Lib.hid H
  clear z1 z2 z3 hr hbad H
  by_cases r0 : r = 0
  · subst r0
    go_enter Tryz.func136, Tryz.ntmps136
    go_wp2_with (first
      | (go_at_call 137; (with_reducible refine zs.mono ?_); rintro e wA ⟨x, rfl, g1, x0, x1, x2, hR, hp⟩; have H1 := HH.out.quiet g1; have hq := meter_gets (B := w.heap.size + 1) (by omega) H1.second hR hp s hs HR.out; have ent : ∀ (args : Array Value) (w : World), (callFunc x.gf args).run Tryz.prog w = .ok (.enter x.gf args) w := hq.1; have hq2 := hq.2; clear hq hR hp)
      | (go_at_fn x.gf; (with_reducible refine hq2.mono ?_); rintro e wB ⟨rfl, g2, hz⟩; have hX := hz (by trivial); have hR3 := but_blk H1.drop.drop.head g2 (by omega))
      | (with_reducible refine wpList_load_row rfl 47 (.tmp 6) rfl (w.heap.size + 1) rfl 47 #[.int .i64 v0, .int .i64 v1, .int .i64 v2] (0, 0) _ hX Tryz.underlying47 rfl (by kernel_rfl) ?_)
      | (with_reducible refine wpList_store_row rfl 47 (.tmp 4) (.tmp 18) rfl w.heap.size #[.int .i64 v0, .int .i64 v1, .int .i64 v2] rfl rfl 47 #[.int .i64 0, .int .i64 0, .int .i64 0] hR3 (by kernel_rfl) rfl (by simp [Value.oneCell']) ?_; obtain ⟨g6, h6⟩ := setRow_facts #[.int .i64 v0, .int .i64 v1, .int .i64 v2] hR3))
    have hsz : wB.heap.size > w.heap.size := by have := g2.size; have := (Array.getElem?_eq_some_iff.1 H1.drop.drop.head).1; omega
    have W5 : Wider w wB := g2.wider H1.wider (by intro i m; simp only [List.mem_singleton] at m; omega)
    have W6w : Wider w _ := g6.wider W5 (by intro i m; simp only [List.mem_singleton] at m; omega)
    have d100 := blk_cell h6 0 (v := .int .i64 v0) rfl
    have d101 := blk_cell h6 1 (v := .int .i64 v1) rfl
    have d102 := blk_cell h6 2 (v := .int .i64 v2) rfl
    simp [bodyPost, results, Tryz.results136, go_sem, d100, d101, d102]
    exact W6w
  · have hzv : [ValN.num v0, ValN.num v1, ValN.num v2] = [ValN.num 0, ValN.num 0, ValN.num 0] ∧ (r = 3 ∨ r = 4) := by
      rcases HBAD.out with h | ⟨h1, h2⟩
      · exact absurd h r0
      · exact ⟨h1, h2⟩
    obtain ⟨hzv, _⟩ := hzv
    simp only [ValN.num.injEq, List.cons.injEq, and_true] at hzv
    obtain ⟨rfl, rfl, rfl⟩ := hzv
    have d0 : ((r : Int) == 0) = false := by rw [beq_eq_false_iff_ne]; omega
    go_enter Tryz.func136, Tryz.ntmps136
    go_wp2_with (first
      | (go_at_call 137; (with_reducible refine zs.mono ?_); rintro e wA ⟨x, rfl, g1, x0, x1, x2, hR, hp⟩; have H1 := HH.out.quiet g1; have hq := meter_gets (B := w.heap.size + 1) (by omega) H1.second hR hp s hs HR.out; have ent : ∀ (args : Array Value) (w : World), (callFunc x.gf args).run Tryz.prog w = .ok (.enter x.gf args) w := hq.1; have hq2 := hq.2; clear hq hR hp)
      | (go_at_fn x.gf; (with_reducible refine hq2.mono ?_); rintro e wB ⟨rfl, g2, hz⟩; have hX := but_blk H1.head g2 (by omega); have hR3 := but_blk H1.drop.drop.head g2 (by omega))
      | (with_reducible refine wpList_load_row rfl 47 (.tmp 7) rfl (w.heap.size + 1 + 1) rfl 47 #[.int .i64 0, .int .i64 0, .int .i64 0] (0, 0) _ hX Tryz.underlying47 rfl (by kernel_rfl) ?_)
      | (with_reducible refine wpList_store_row rfl 47 (.tmp 4) (.tmp 16) rfl w.heap.size #[.int .i64 0, .int .i64 0, .int .i64 0] rfl rfl 47 #[.int .i64 0, .int .i64 0, .int .i64 0] hR3 (by kernel_rfl) rfl (by simp [Value.oneCell']) ?_; obtain ⟨g6, h6⟩ := setRow_facts #[.int .i64 0, .int .i64 0, .int .i64 0] hR3))
    have hsz : wB.heap.size > w.heap.size := by have := g2.size; have := (Array.getElem?_eq_some_iff.1 H1.drop.drop.head).1; omega
    have W5 : Wider w wB := g2.wider H1.wider (by intro i m; simp only [List.mem_singleton] at m; omega)
    have W6w : Wider w _ := g6.wider W5 (by intro i m; simp only [List.mem_singleton] at m; omega)
    have d100 := blk_cell h6 0 (v := .int .i64 0) rfl
    have d101 := blk_cell h6 1 (v := .int .i64 0) rfl
    have d102 := blk_cell h6 2 (v := .int .i64 0) rfl
    simp [bodyPost, results, Tryz.results136, go_sem, d100, d101, d102]
    exact W6w
set_option maxHeartbeats 32000000 in
theorem readMeter_c (s : ByteArray) (w : World) (hs : s.size < 1000000) {v0 : Int} {v1 : Int} {v2 : Int} {r : Nat} (hr : decG csMeter s.data.toList = ([ValN.num v0, ValN.num v1, ValN.num v2], r)) :
    Calls Tryz.prog 89 #[.string s] w fun e w' => e = .returned (.tuple #[.agg #[.int .i64 v0, .int .i64 v1, .int .i64 v2], .int .i64 (r : Int)]) ∧ Wider w w' := by
  have H := (Own.nil (Wider.refl w)).blk #[.int .i64 0, .int .i64 0, .int .i64 0] 47
  have zr := rdMeter_c s (w.alloc (.cells #[.int .i64 0, .int .i64 0, .int .i64 0] 47)) hs hr
  have HH := Lib.hid H
  clear hr H
  go_enter Tryz.func89, Tryz.ntmps89
  go_wp2_with (first
    | (go_at_call 136; (with_reducible refine zr.mono ?_); rintro e wB ⟨rfl, g1⟩; have H1 := HH.out.quiet g1; have hR3 := H1.head)
    | (with_reducible refine wpList_store_row rfl 47 (.tmp 2) (.tmp 6) rfl w.heap.size #[.int .i64 v0, .int .i64 v1, .int .i64 v2] rfl rfl 47 #[.int .i64 0, .int .i64 0, .int .i64 0] hR3 (by kernel_rfl) rfl (by simp [Value.oneCell']) ?_; obtain ⟨g6, h6⟩ := setRow_facts #[.int .i64 v0, .int .i64 v1, .int .i64 v2] hR3))
  have W6w : Wider w _ := g6.wider H1.wider (by intro i m; simp only [List.mem_singleton] at m; omega)
  have d100 := blk_cell h6 0 (v := .int .i64 v0) rfl
  have d101 := blk_cell h6 1 (v := .int .i64 v1) rfl
  have d102 := blk_cell h6 2 (v := .int .i64 v2) rfl
  simp [bodyPost, results, Tryz.results89, go_sem, d100, d101, d102]
  exact W6w
end Go.Proofs.YtilpimilbjcifaaGreatDoor

/- Package obj's reader of Regs, by walks. -/
namespace Go.Proofs.YtilpimilbjcifaaGreatDoor
set_option linter.unusedVariables false
set_option maxRecDepth 20000
open Go.ChangeShapes Go.WideShapes Go.ChangeAt Go.RowKit Go.Joins
open Go.ChangeMaps (open_string shut_string)
theorem regs_gets {W : World} {x : FnP} {B b0 : Nat} (hb : B < b0) (hB : W.heap[B]? = some (.cells #[.int .i64 0, .int .i64 0] 49 (0, 0)))
    {x0 x1 : FnP} (hR : RecAt b0 W x [x0, x1]) (hp : NumP .i64 2147483647 (by decide) b0 W x0 (⟨B, 0, none⟩ : Addr) ∧ NumP .i64 2147483647 (by decide) b0 W x1 (⟨B, 0 + 1, none⟩ : Addr)) (s : ByteArray) (hs : s.size < 1000000) {v0 : Int} {v1 : Int} {r : Nat} (hr : decG csRegs s.data.toList = ([ValN.num v0, ValN.num v1], r)) :
    Enters Tryz.prog x.gf ∧ Calls Tryz.prog x.gf (#[.string s] ++ x.gc) W fun e w' => e = .returned (.int .i64 (r : Int)) ∧ WBut [B] W w' ∧ (r = 0 → w'.heap[B]? = some (.cells #[.int .i64 v0, .int .i64 v1] 49 (0, 0))) := by
  obtain ⟨h0, h1⟩ := hp
  have k := recget_c (B := B) hR (cs := csRegs) (os := [0, 1]) (Rs := [relV .i64, relV .i64]) rfl rfl rfl (by decide) (by
    intro R hR
    simp only [List.mem_cons, List.not_mem_nil, or_false] at hR
    rcases hR with rfl | rfl
    · exact relV_S _
    · exact relV_S _
    ) (by decide) (fun k p c o R e1 e2 e3 e4 => by
    match k, e1, e2, e3, e4 with
    | 0, e1, e2, e3, e4 =>
      simp [csRegs] at e1 e2 e3 e4
      subst e1 e2 e3 e4
      exact h0.part.get
    | 1, e1, e2, e3, e4 =>
      simp [csRegs] at e1 e2 e3 e4
      subst e1 e2 e3 e4
      exact h1.part.get
    | k + 2, e1, e2, e3, e4 => simp at e1) hb
  refine ⟨k.1, (k.2 W _ _ (Keeps.refl _ _) hB (by decide) ?_ s hs _ r hr).mono ?_⟩
  · intro k o R y e1 e2 e3
    match k, e1, e2, e3 with
    | 0, e1, e2, e3 =>
      simp [csRegs, zeroG] at e1 e2 e3
      subst e1 e2 e3
      exact ⟨_, rfl, 0, rfl, rfl⟩
    | 1, e1, e2, e3 =>
      simp [csRegs, zeroG] at e1 e2 e3
      subst e1 e2 e3
      exact ⟨_, rfl, 0, rfl, rfl⟩
    | k + 2, e1, e2, e3 => simp at e1
  · rintro e w3 ⟨rfl, g3, h⟩
    refine ⟨rfl, g3, fun h0 => ?_⟩
    obtain ⟨C', hC, hs', _, hst⟩ := h h0
    obtain ⟨u0, hu0, hv0⟩ := hst 0 0 _ _ rfl rfl rfl
    obtain ⟨n0, q0, rfl⟩ := hv0
    injection q0 with q0
    subst q0
    obtain ⟨u1, hu1, hv1⟩ := hst 1 1 _ _ rfl rfl rfl
    obtain ⟨n1, q1, rfl⟩ := hv1
    injection q1 with q1
    subst q1
    have e : C' = #[.int .i64 v0, .int .i64 v1] := by
      refine arr_of hs' fun i hi => ?_
      have hi : i < 2 := hi
      match i, hi with
      | 0, _ => exact hu0
      | 1, _ => exact hu1
      | i + 2, h => omega
    subst e
    exact hC
set_option maxHeartbeats 32000000 in
theorem rdRegs_c (s : ByteArray) (w : World) (hs : s.size < 1000000) {v0 : Int} {v1 : Int} {r : Nat} (hr : decG csRegs s.data.toList = ([ValN.num v0, ValN.num v1], r)) :
    Calls Tryz.prog 138 #[.string s, .func (.func 139) #[] #[]] w fun e w' => e = .returned (.tuple #[.agg #[.int .i64 v0, .int .i64 v1], .int .i64 (r : Int)]) ∧ Wider w w' := by
  have H := (((Own.nil (Wider.refl w)).blk #[.int .i64 0, .int .i64 0] 49).blk #[.int .i64 0, .int .i64 0] 49).blk #[.int .i64 0, .int .i64 0] 49
  have z1 : (w.alloc (.cells #[.int .i64 0, .int .i64 0] 49)).heap.size = w.heap.size + 1 := by simp
  have z2 : ((w.alloc (.cells #[.int .i64 0, .int .i64 0] 49)).alloc (.cells #[.int .i64 0, .int .i64 0] 49)).heap.size = w.heap.size + 2 := by simp
  rw [z1, z2] at H
  have z3 : (((w.alloc (.cells #[.int .i64 0, .int .i64 0] 49)).alloc (.cells #[.int .i64 0, .int .i64 0] 49)).alloc (.cells #[.int .i64 0, .int .i64 0] 49)).heap.size = w.heap.size + 3 := by simp
  have zs := regs_s (((w.alloc (.cells #[.int .i64 0, .int .i64 0] 49)).alloc (.cells #[.int .i64 0, .int .i64 0] 49)).alloc (.cells #[.int .i64 0, .int .i64 0] 49)) ⟨w.heap.size + 1, 0, none⟩
  rw [z3] at zs
  have hbad := decG_bad csRegs s.data.toList
  rw [hr] at hbad
  have hfg := fld_get
  have HR := Lib.hid hr
  have HBAD := Lib.hid hbad
  have HH := Lib.hid H
  clear z1 z2 z3 hr hbad H
  by_cases r0 : r = 0
  · subst r0
    go_enter Tryz.func138, Tryz.ntmps138
    go_wp2_with (first
      | (go_at_call 139; (with_reducible refine zs.mono ?_); rintro e wA ⟨x, rfl, g1, x0, x1, hR, hp⟩; have H1 := HH.out.quiet g1; have hq := regs_gets (B := w.heap.size + 1) (by omega) H1.second hR hp s hs HR.out; have ent : ∀ (args : Array Value) (w : World), (callFunc x.gf args).run Tryz.prog w = .ok (.enter x.gf args) w := hq.1; have hq2 := hq.2; clear hq hR hp)
      | (go_at_fn x.gf; (with_reducible refine hq2.mono ?_); rintro e wB ⟨rfl, g2, hz⟩; have hX := hz (by trivial); have hR3 := but_blk H1.drop.drop.head g2 (by omega))
      | (with_reducible refine wpList_load_row rfl 49 (.tmp 6) rfl (w.heap.size + 1) rfl 49 #[.int .i64 v0, .int .i64 v1] (0, 0) _ hX Tryz.underlying49 rfl (by kernel_rfl) ?_)
      | (with_reducible refine wpList_store_row rfl 49 (.tmp 4) (.tmp 18) rfl w.heap.size #[.int .i64 v0, .int .i64 v1] rfl rfl 49 #[.int .i64 0, .int .i64 0] hR3 (by kernel_rfl) rfl (by simp [Value.oneCell']) ?_; obtain ⟨g6, h6⟩ := setRow_facts #[.int .i64 v0, .int .i64 v1] hR3))
    have hsz : wB.heap.size > w.heap.size := by have := g2.size; have := (Array.getElem?_eq_some_iff.1 H1.drop.drop.head).1; omega
    have W5 : Wider w wB := g2.wider H1.wider (by intro i m; simp only [List.mem_singleton] at m; omega)
    have W6w : Wider w _ := g6.wider W5 (by intro i m; simp only [List.mem_singleton] at m; omega)
    have d100 := blk_cell h6 0 (v := .int .i64 v0) rfl
    have d101 := blk_cell h6 1 (v := .int .i64 v1) rfl
    simp [bodyPost, results, Tryz.results138, go_sem, d100, d101]
    exact W6w
  · have hzv : [ValN.num v0, ValN.num v1] = [ValN.num 0, ValN.num 0] ∧ (r = 3 ∨ r = 4) := by
      rcases HBAD.out with h | ⟨h1, h2⟩
      · exact absurd h r0
      · exact ⟨h1, h2⟩
    obtain ⟨hzv, _⟩ := hzv
    simp only [ValN.num.injEq, List.cons.injEq, and_true] at hzv
    obtain ⟨rfl, rfl⟩ := hzv
    have d0 : ((r : Int) == 0) = false := by rw [beq_eq_false_iff_ne]; omega
    go_enter Tryz.func138, Tryz.ntmps138
    go_wp2_with (first
      | (go_at_call 139; (with_reducible refine zs.mono ?_); rintro e wA ⟨x, rfl, g1, x0, x1, hR, hp⟩; have H1 := HH.out.quiet g1; have hq := regs_gets (B := w.heap.size + 1) (by omega) H1.second hR hp s hs HR.out; have ent : ∀ (args : Array Value) (w : World), (callFunc x.gf args).run Tryz.prog w = .ok (.enter x.gf args) w := hq.1; have hq2 := hq.2; clear hq hR hp)
      | (go_at_fn x.gf; (with_reducible refine hq2.mono ?_); rintro e wB ⟨rfl, g2, hz⟩; have hX := but_blk H1.head g2 (by omega); have hR3 := but_blk H1.drop.drop.head g2 (by omega))
      | (with_reducible refine wpList_load_row rfl 49 (.tmp 7) rfl (w.heap.size + 1 + 1) rfl 49 #[.int .i64 0, .int .i64 0] (0, 0) _ hX Tryz.underlying49 rfl (by kernel_rfl) ?_)
      | (with_reducible refine wpList_store_row rfl 49 (.tmp 4) (.tmp 16) rfl w.heap.size #[.int .i64 0, .int .i64 0] rfl rfl 49 #[.int .i64 0, .int .i64 0] hR3 (by kernel_rfl) rfl (by simp [Value.oneCell']) ?_; obtain ⟨g6, h6⟩ := setRow_facts #[.int .i64 0, .int .i64 0] hR3))
    have hsz : wB.heap.size > w.heap.size := by have := g2.size; have := (Array.getElem?_eq_some_iff.1 H1.drop.drop.head).1; omega
    have W5 : Wider w wB := g2.wider H1.wider (by intro i m; simp only [List.mem_singleton] at m; omega)
    have W6w : Wider w _ := g6.wider W5 (by intro i m; simp only [List.mem_singleton] at m; omega)
    have d100 := blk_cell h6 0 (v := .int .i64 0) rfl
    have d101 := blk_cell h6 1 (v := .int .i64 0) rfl
    simp [bodyPost, results, Tryz.results138, go_sem, d100, d101]
    exact W6w
set_option maxHeartbeats 32000000 in
theorem readRegs_c (s : ByteArray) (w : World) (hs : s.size < 1000000) {v0 : Int} {v1 : Int} {r : Nat} (hr : decG csRegs s.data.toList = ([ValN.num v0, ValN.num v1], r)) :
    Calls Tryz.prog 90 #[.string s] w fun e w' => e = .returned (.tuple #[.agg #[.int .i64 v0, .int .i64 v1], .int .i64 (r : Int)]) ∧ Wider w w' := by
  have H := (Own.nil (Wider.refl w)).blk #[.int .i64 0, .int .i64 0] 49
  have zr := rdRegs_c s (w.alloc (.cells #[.int .i64 0, .int .i64 0] 49)) hs hr
  have HH := Lib.hid H
  clear hr H
  go_enter Tryz.func90, Tryz.ntmps90
  go_wp2_with (first
    | (go_at_call 138; (with_reducible refine zr.mono ?_); rintro e wB ⟨rfl, g1⟩; have H1 := HH.out.quiet g1; have hR3 := H1.head)
    | (with_reducible refine wpList_store_row rfl 49 (.tmp 2) (.tmp 6) rfl w.heap.size #[.int .i64 v0, .int .i64 v1] rfl rfl 49 #[.int .i64 0, .int .i64 0] hR3 (by kernel_rfl) rfl (by simp [Value.oneCell']) ?_; obtain ⟨g6, h6⟩ := setRow_facts #[.int .i64 v0, .int .i64 v1] hR3))
  have W6w : Wider w _ := g6.wider H1.wider (by intro i m; simp only [List.mem_singleton] at m; omega)
  have d100 := blk_cell h6 0 (v := .int .i64 v0) rfl
  have d101 := blk_cell h6 1 (v := .int .i64 v1) rfl
  simp [bodyPost, results, Tryz.results90, go_sem, d100, d101]
  exact W6w
end Go.Proofs.YtilpimilbjcifaaGreatDoor
