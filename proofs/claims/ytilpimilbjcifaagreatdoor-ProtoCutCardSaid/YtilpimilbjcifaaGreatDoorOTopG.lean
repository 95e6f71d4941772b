/- Texts that belong together, one behind the other: OTopNode OTopField OTopTable OTopEntry OTopBlock OTopGroup OTopMeter OTopRegs. -/
import Derived.Test.YtilpimilbjcifaaGreatDoorOKindG
import Derived.Test.YtilpimilbjcifaaGreatDoorOTopB

/- Package obj's MayNode and PutNode, by walks. -/
namespace Go.Proofs.YtilpimilbjcifaaGreatDoor
set_option linter.unusedVariables false
set_option maxRecDepth 20000
open Go.ChangeShapes Go.WideShapes Go.ChangeAt Go.RowKit Go.Joins
open Go.ChangeMaps (open_string shut_string)
theorem node_puts {w W : World} {x : FnP} {v0 : Int} {v1 : Int} {v2 : Int} {v3 : Int} {v4 : Int} {v5 : Int} {v6 : Int} {v8 : Int} {A : Option Addr} {n cap : Nat} {L : List (List Int)} (w0 : (Lit.int .i64 v0).wf = true) (w1 : (Lit.int .i64 v1).wf = true) (w2 : (Lit.int .i64 v2).wf = true) (w3 : (Lit.int .i64 v3).wf = true) (w4 : (Lit.int .i64 v4).wf = true) (w5 : (Lit.int .i64 v5).wf = true) (w6 : (Lit.int .i64 v6).wf = true) (w8 : (Lit.int .i64 v8).wf = true) (hA : RowAt w A 2 (rowsK ksArm L)) (hn : L.length = n) (hn9 : n < 1000000) (hL : ∀ x ∈ L, wfK ksArm x) (hg : Wider w W) {B : Nat} (hB : W.heap[B]? = some (.cells #[.int .i64 v0, .int .i64 v1, .int .i64 v2, .int .i64 v3, .int .i64 v4, .int .i64 v5, .int .i64 v6, .slice A n cap, .int .i64 v8] 32 (0, 0)))
    {b0 : Nat} {x0 x1 x2 x3 x4 x5 x6 x7 x8 : FnP} (hR : RecAt b0 W x [x0, x1, x2, x3, x4, x5, x6, x7, x8]) (hp : NumP .i64 2147483647 (by decide) b0 W x0 (⟨B, 0, none⟩ : Addr) ∧ NumP .i64 2147483647 (by decide) b0 W x1 (⟨B, 0 + 1, none⟩ : Addr) ∧ NumP .i64 2147483647 (by decide) b0 W x2 (⟨B, 0 + 2, none⟩ : Addr) ∧ NumP .i64 2147483647 (by decide) b0 W x3 (⟨B, 0 + 3, none⟩ : Addr) ∧ NumP .i64 2147483647 (by decide) b0 W x4 (⟨B, 0 + 4, none⟩ : Addr) ∧ NumP .i64 2147483647 (by decide) b0 W x5 (⟨B, 0 + 5, none⟩ : Addr) ∧ NumP .i64 2147483647 (by decide) b0 W x6 (⟨B, 0 + 6, none⟩ : Addr) ∧ NumP .i64 2147483647 (by decide) b0 W x7 (⟨B, 0 + 8, none⟩ : Addr) ∧ PartV lArms (inL ksArm) (relL 61 2 ksArm) b0 W x8 (⟨B, 0 + 7, none⟩ : Addr)) {T : ByteArray} {r : Nat} (hr : PutG csNode [ValN.num v0, ValN.num v1, ValN.num v2, ValN.num v3, ValN.num v4, ValN.num v5, ValN.num v6, ValN.num v8, ValN.lst L] T r) : Puts W x T r := by
  obtain ⟨h0, h1, h2, h3, h4, h5, h6, h7, h8⟩ := hp
  refine recput_c hR rfl rfl (fun k p c y e1 e2 e3 T r h => ?_) (by decide) (by decide) (by decide) hr
  match k, e1, e2, e3 with
  | 0, e1, e2, e3 =>
    simp [csNode] at e1 e2 e3
    subst e1 e2 e3
    exact h0.part.put W (Keeps.refl _ _) _ _ (blk_cell hB 0 rfl) ⟨_, rfl, rfl, w0⟩ T r h
  | 1, e1, e2, e3 =>
    simp [csNode] at e1 e2 e3
    subst e1 e2 e3
    exact h1.part.put W (Keeps.refl _ _) _ _ (blk_cell hB 1 rfl) ⟨_, rfl, rfl, w1⟩ T r h
  | 2, e1, e2, e3 =>
    simp [csNode] at e1 e2 e3
    subst e1 e2 e3
    exact h2.part.put W (Keeps.refl _ _) _ _ (blk_cell hB 2 rfl) ⟨_, rfl, rfl, w2⟩ T r h
  | 3, e1, e2, e3 =>
    simp [csNode] at e1 e2 e3
    subst e1 e2 e3
    exact h3.part.put W (Keeps.refl _ _) _ _ (blk_cell hB 3 rfl) ⟨_, rfl, rfl, w3⟩ T r h
  | 4, e1, e2, e3 =>
    simp [csNode] at e1 e2 e3
    subst e1 e2 e3
    exact h4.part.put W (Keeps.refl _ _) _ _ (blk_cell hB 4 rfl) ⟨_, rfl, rfl, w4⟩ T r h
  | 5, e1, e2, e3 =>
    simp [csNode] at e1 e2 e3
    subst e1 e2 e3
    exact h5.part.put W (Keeps.refl _ _) _ _ (blk_cell hB 5 rfl) ⟨_, rfl, rfl, w5⟩ T r h
  | 6, e1, e2, e3 =>
    simp [csNode] at e1 e2 e3
    subst e1 e2 e3
    exact h6.part.put W (Keeps.refl _ _) _ _ (blk_cell hB 6 rfl) ⟨_, rfl, rfl, w6⟩ T r h
  | 7, e1, e2, e3 =>
    simp [csNode] at e1 e2 e3
    subst e1 e2 e3
    exact h7.part.put W (Keeps.refl _ _) _ _ (blk_cell hB 8 rfl) ⟨_, rfl, rfl, w8⟩ T r h
  | 8, e1, e2, e3 =>
    simp [csNode] at e1 e2 e3
    subst e1 e2 e3
    exact h8.put W (Keeps.refl _ _) _ _ (blk_cell hB 7 rfl) ⟨A, n, cap, L, rfl, rfl, hn, hn9, hA.on hg, hL⟩ T r h
  | k + 9, e1, e2, e3 => simp at e1
set_option maxHeartbeats 2000000 in
theorem putNode_c (w : World) {v0 : Int} {v1 : Int} {v2 : Int} {v3 : Int} {v4 : Int} {v5 : Int} {v6 : Int} {v8 : Int} {A : Option Addr} {n cap : Nat} {L : List (List Int)} (w0 : (Lit.int .i64 v0).wf = true) (w1 : (Lit.int .i64 v1).wf = true) (w2 : (Lit.int .i64 v2).wf = true) (w3 : (Lit.int .i64 v3).wf = true) (w4 : (Lit.int .i64 v4).wf = true) (w5 : (Lit.int .i64 v5).wf = true) (w6 : (Lit.int .i64 v6).wf = true) (w8 : (Lit.int .i64 v8).wf = true) (hA : RowAt w A 2 (rowsK ksArm L)) (hn : L.length = n) (hn9 : n < 1000000) (hL : ∀ x ∈ L, wfK ksArm x) {T : ByteArray} {r : Nat} (hr : PutG csNode [ValN.num v0, ValN.num v1, ValN.num v2, ValN.num v3, ValN.num v4, ValN.num v5, ValN.num v6, ValN.num v8, ValN.lst L] T r) :
    Calls Tryz.prog 112 #[.agg #[.int .i64 v0, .int .i64 v1, .int .i64 v2, .int .i64 v3, .int .i64 v4, .int .i64 v5, .int .i64 v6, .slice A n cap, .int .i64 v8]] w fun e w' => e = .returned (.tuple #[.string T, .int .i64 (r : Int)]) ∧ Wider w w' := by
  have H := (Own.nil (Wider.refl w)).blk #[.int .i64 v0, .int .i64 v1, .int .i64 v2, .int .i64 v3, .int .i64 v4, .int .i64 v5, .int .i64 v6, .slice A n cap, .int .i64 v8] 32
  have zs := node_s (w.alloc (.cells #[.int .i64 v0, .int .i64 v1, .int .i64 v2, .int .i64 v3, .int .i64 v4, .int .i64 v5, .int .i64 v6, .slice A n cap, .int .i64 v8] 32)) ⟨w.heap.size, 0, none⟩
  have hfp := fld_put
  have HH := Lib.hid H
  clear H
  go_enter Tryz.func112, Tryz.ntmps112
  go_wp2_with (first
    | (go_at_call 125; (with_reducible refine zs.mono ?_); rintro e wA ⟨x, rfl, g1, x0, x1, x2, x3, x4, x5, x6, x7, x8, hR, hp⟩; have hq := node_puts (w0 := w0) (w1 := w1) (w2 := w2) (w3 := w3) (w4 := w4) (w5 := w5) (w6 := w6) (w8 := w8) (hA := hA) (hn := hn) (hn9 := hn9) (hL := hL) (((Wider.refl w).alloc _).trans g1) (HH.out.quiet g1).head hR hp hr; have ent : ∀ (args : Array Value) (w : World), (callFunc x.pf args).run Tryz.prog w = .ok (.enter x.pf args) w := hq.1; have hq2 := hq.2 wA (Wider.refl _); clear hq hR hp)
    | (go_at_fn x.pf; (with_reducible refine hq2.mono ?_); rintro e wB ⟨rfl, g2⟩))
  go_ret2
  exact ⟨rfl, (((Wider.refl w).alloc _).trans g1).trans g2⟩
end Go.Proofs.YtilpimilbjcifaaGreatDoor

/- Package obj's MayField and PutField, by walks. -/
namespace Go.Proofs.YtilpimilbjcifaaGreatDoor
set_option linter.unusedVariables false
set_option maxRecDepth 20000
open Go.ChangeShapes Go.WideShapes Go.ChangeAt Go.RowKit Go.Joins
open Go.ChangeMaps (open_string shut_string)
theorem field_puts {w W : World} {x : FnP} {v0 : Int} {v1 : Int} {v2 : Int} {v3 : Int} {v4 : Int} (w0 : (Lit.int .i64 v0).wf = true) (w1 : (Lit.int .u8 v1).wf = true) (w2 : (Lit.int .i64 v2).wf = true) (w3 : (Lit.int .i64 v3).wf = true) (w4 : (Lit.int .i64 v4).wf = true) (hg : Wider w W) {B : Nat} (hB : W.heap[B]? = some (.cells #[.int .i64 v0, .int .u8 v1, .int .i64 v2, .int .i64 v3, .int .i64 v4] 34 (0, 0)))
    {b0 : Nat} {x0 x1 x2 x3 x4 : FnP} (hR : RecAt b0 W x [x0, x1, x2, x3, x4]) (hp : NumP .i64 2147483647 (by decide) b0 W x0 (⟨B, 0, none⟩ : Addr) ∧ NumP .u8 255 (by decide) b0 W x1 (⟨B, 0 + 1, none⟩ : Addr) ∧ NumP .i64 2147483647 (by decide) b0 W x2 (⟨B, 0 + 2, none⟩ : Addr) ∧ NumP .i64 2147483647 (by decide) b0 W x3 (⟨B, 0 + 3, none⟩ : Addr) ∧ NumP .i64 2147483647 (by decide) b0 W x4 (⟨B, 0 + 4, none⟩ : Addr)) {T : ByteArray} {r : Nat} (hr : PutG csField [ValN.num v0, ValN.num v1, ValN.num v2, ValN.num v3, ValN.num v4] T r) : Puts W x T r := by
  obtain ⟨h0, h1, h2, h3, h4⟩ := hp
  refine recput_c hR rfl rfl (fun k p c y e1 e2 e3 T r h => ?_) (by decide) (by decide) (by decide) hr
  match k, e1, e2, e3 with
  | 0, e1, e2, e3 =>
    simp [csField] at e1 e2 e3
    subst e1 e2 e3
    exact h0.part.put W (Keeps.refl _ _) _ _ (blk_cell hB 0 rfl) ⟨_, rfl, rfl, w0⟩ T r h
  | 1, e1, e2, e3 =>
    simp [csField] at e1 e2 e3
    subst e1 e2 e3
    exact h1.part.put W (Keeps.refl _ _) _ _ (blk_cell hB 1 rfl) ⟨_, rfl, rfl, w1⟩ T r h
  | 2, e1, e2, e3 =>
    simp [csField] at e1 e2 e3
    subst e1 e2 e3
    exact h2.part.put W (Keeps.refl _ _) _ _ (blk_cell hB 2 rfl) ⟨_, rfl, rfl, w2⟩ T r h
  | 3, e1, e2, e3 =>
    simp [csField] at e1 e2 e3
    subst e1 e2 e3
    exact h3.part.put W (Keeps.refl _ _) _ _ (blk_cell hB 3 rfl) ⟨_, rfl, rfl, w3⟩ T r h
  | 4, e1, e2, e3 =>
    simp [csField] at e1 e2 e3
    subst e1 e2 e3
    exact h4.part.put W (Keeps.refl _ _) _ _ (blk_cell hB 4 rfl) ⟨_, rfl, rfl, w4⟩ T r h
  | k + 5, e1, e2, e3 => simp at e1
set_option maxHeartbeats 2000000 in
theorem putField_c (w : World) {v0 : Int} {v1 : Int} {v2 : Int} {v3 : Int} {v4 : Int} (w0 : (Lit.int .i64 v0).wf = true) (w1 : (Lit.int .u8 v1).wf = true) (w2 : (Lit.int .i64 v2).wf = true) (w3 : (Lit.int .i64 v3).wf = true) (w4 : (Lit.int .i64 v4).wf = true) {T : ByteArray} {r : Nat} (hr : PutG csField [ValN.num v0, ValN.num v1, ValN.num v2, ValN.num v3, ValN.num v4] T r) :
    Calls Tryz.prog 113 #[.agg #[.int .i64 v0, .int .u8 v1, .int .i64 v2, .int .i64 v3, .int .i64 v4]] w fun e w' => e = .returned (.tuple #[.string T, .int .i64 (r : Int)]) ∧ Wider w w' := by
  have H := (Own.nil (Wider.refl w)).blk #[.int .i64 v0, .int .u8 v1, .int .i64 v2, .int .i64 v3, .int .i64 v4] 34
  have zs := field_s (w.alloc (.cells #[.int .i64 v0, .int .u8 v1, .int .i64 v2, .int .i64 v3, .int .i64 v4] 34)) ⟨w.heap.size, 0, none⟩
  have hfp := fld_put
  have HH := Lib.hid H
  clear H
  go_enter Tryz.func113, Tryz.ntmps113
  go_wp2_with (first
    | (go_at_call 127; (with_reducible refine zs.mono ?_); rintro e wA ⟨x, rfl, g1, x0, x1, x2, x3, x4, hR, hp⟩; have hq := field_puts (w0 := w0) (w1 := w1) (w2 := w2) (w3 := w3) (w4 := w4) (((Wider.refl w).alloc _).trans g1) (HH.out.quiet g1).head hR hp hr; have ent : ∀ (args : Array Value) (w : World), (callFunc x.pf args).run Tryz.prog w = .ok (.enter x.pf args) w := hq.1; have hq2 := hq.2 wA (Wider.refl _); clear hq hR hp)
    | (go_at_fn x.pf; (with_reducible refine hq2.mono ?_); rintro e wB ⟨rfl, g2⟩))
  go_ret2
  exact ⟨rfl, (((Wider.refl w).alloc _).trans g1).trans g2⟩
end Go.Proofs.YtilpimilbjcifaaGreatDoor

/- Package obj's MayTable and PutTable, by walks. -/
namespace Go.Proofs.YtilpimilbjcifaaGreatDoor
set_option linter.unusedVariables false
set_option maxRecDepth 20000
open Go.ChangeShapes Go.WideShapes Go.ChangeAt Go.RowKit Go.Joins
open Go.ChangeMaps (open_string shut_string)
theorem table_puts {w W : World} {x : FnP} {v0 : Int} {v1 : Int} {v3 : Int} {v4 : Int} {A : Option Addr} {n cap : Nat} {L : List (List Int)} (w0 : (Lit.int .i64 v0).wf = true) (w1 : (Lit.int .u8 v1).wf = true) (w3 : (Lit.int .i64 v3).wf = true) (w4 : (Lit.int .i64 v4).wf = true) (hA : RowAt w A 1 (rowsK ksKey L)) (hn : L.length = n) (hn9 : n < 1000000) (hL : ∀ x ∈ L, wfK ksKey x) (hg : Wider w W) {B : Nat} (hB : W.heap[B]? = some (.cells #[.int .i64 v0, .int .u8 v1, .slice A n cap, .int .i64 v3, .int .i64 v4] 37 (0, 0)))
    {b0 : Nat} {x0 x1 x2 x3 x4 : FnP} (hR : RecAt b0 W x [x0, x1, x2, x3, x4]) (hp : NumP .i64 2147483647 (by decide) b0 W x0 (⟨B, 0, none⟩ : Addr) ∧ NumP .u8 255 (by decide) b0 W x1 (⟨B, 0 + 1, none⟩ : Addr) ∧ PartV lKeys (inL ksKey) (relL 3 1 ksKey) b0 W x2 (⟨B, 0 + 2, none⟩ : Addr) ∧ NumP .i64 2147483647 (by decide) b0 W x3 (⟨B, 0 + 3, none⟩ : Addr) ∧ NumP .i64 2147483647 (by decide) b0 W x4 (⟨B, 0 + 4, none⟩ : Addr)) {T : ByteArray} {r : Nat} (hr : PutG csTable [ValN.num v0, ValN.num v1, ValN.lst L, ValN.num v3, ValN.num v4] T r) : Puts W x T r := by
  obtain ⟨h0, h1, h2, h3, h4⟩ := hp
  refine recput_c hR rfl rfl (fun k p c y e1 e2 e3 T r h => ?_) (by decide) (by decide) (by decide) hr
  match k, e1, e2, e3 with
  | 0, e1, e2, e3 =>
    simp [csTable] at e1 e2 e3
    subst e1 e2 e3
    exact h0.part.put W (Keeps.refl _ _) _ _ (blk_cell hB 0 rfl) ⟨_, rfl, rfl, w0⟩ T r h
  | 1, e1, e2, e3 =>
    simp [csTable] at e1 e2 e3
    subst e1 e2 e3
    exact h1.part.put W (Keeps.refl _ _) _ _ (blk_cell hB 1 rfl) ⟨_, rfl, rfl, w1⟩ T r h
  | 2, e1, e2, e3 =>
    simp [csTable] at e1 e2 e3
    subst e1 e2 e3
    exact h2.put W (Keeps.refl _ _) _ _ (blk_cell hB 2 rfl) ⟨A, n, cap, L, rfl, rfl, hn, hn9, hA.on hg, hL⟩ T r h
  | 3, e1, e2, e3 =>
    simp [csTable] at e1 e2 e3
    subst e1 e2 e3
    exact h3.part.put W (Keeps.refl _ _) _ _ (blk_cell hB 3 rfl) ⟨_, rfl, rfl, w3⟩ T r h
  | 4, e1, e2, e3 =>
    simp [csTable] at e1 e2 e3
    subst e1 e2 e3
    exact h4.part.put W (Keeps.refl _ _) _ _ (blk_cell hB 4 rfl) ⟨_, rfl, rfl, w4⟩ T r h
  | k + 5, e1, e2, e3 => simp at e1
set_option maxHeartbeats 2000000 in
theorem putTable_c (w : World) {v0 : Int} {v1 : Int} {v3 : Int} {v4 : Int} {A : Option Addr} {n cap : Nat} {L : List (List Int)} (w0 : (Lit.int .i64 v0).wf = true) (w1 : (Lit.int .u8 v1).wf = true) (w3 : (Lit.int .i64 v3).wf = true) (w4 : (Lit.int .i64 v4).wf = true) (hA : RowAt w A 1 (rowsK ksKey L)) (hn : L.length = n) (hn9 : n < 1000000) (hL : ∀ x ∈ L, wfK ksKey x) {T : ByteArray} {r : Nat} (hr : PutG csTable [ValN.num v0, ValN.num v1, ValN.lst L, ValN.num v3, ValN.num v4] T r) :
    Calls Tryz.prog 114 #[.agg #[.int .i64 v0, .int .u8 v1, .slice A n cap, .int .i64 v3, .int .i64 v4]] w fun e w' => e = .returned (.tuple #[.string T, .int .i64 (r : Int)]) ∧ Wider w w' := by
  have H := (Own.nil (Wider.refl w)).blk #[.int .i64 v0, .int .u8 v1, .slice A n cap, .int .i64 v3, .int .i64 v4] 37
  have zs := table_s (w.alloc (.cells #[.int .i64 v0, .int .u8 v1, .slice A n cap, .int .i64 v3, .int .i64 v4] 37)) ⟨w.heap.size, 0, none⟩
  have hfp := fld_put
  have HH := Lib.hid H
  clear H
  go_enter Tryz.func114, Tryz.ntmps114
  go_wp2_with (first
    | (go_at_call 129; (with_reducible refine zs.mono ?_); rintro e wA ⟨x, rfl, g1, x0, x1, x2, x3, x4, hR, hp⟩; have hq := table_puts (w0 := w0) (w1 := w1) (w3 := w3) (w4 := w4) (hA := hA) (hn := hn) (hn9 := hn9) (hL := hL) (((Wider.refl w).alloc _).trans g1) (HH.out.quiet g1).head hR hp hr; have ent : ∀ (args : Array Value) (w : World), (callFunc x.pf args).run Tryz.prog w = .ok (.enter x.pf args) w := hq.1; have hq2 := hq.2 wA (Wider.refl _); clear hq hR hp)
    | (go_at_fn x.pf; (with_reducible refine hq2.mono ?_); rintro e wB ⟨rfl, g2⟩))
  go_ret2
  exact ⟨rfl, (((Wider.refl w).alloc _).trans g1).trans g2⟩
end Go.Proofs.YtilpimilbjcifaaGreatDoor

/- Package obj's MayEntry and PutEntry, by walks. -/
namespace Go.Proofs.YtilpimilbjcifaaGreatDoor
set_option linter.unusedVariables false
set_option maxRecDepth 20000
open Go.ChangeShapes Go.WideShapes Go.ChangeAt Go.RowKit Go.Joins
open Go.ChangeMaps (open_string shut_string)
theorem entry_puts {w W : World} {x : FnP} {v0 : Int} {v1 : ByteArray} {v2 : ByteArray} {v3 : Int} {v4 : Int} {v5 : Int} {v7 : Int} {v8 : Int} {v9 : Int} {v10 : Bool} {A : Option Addr} {n cap : Nat} {L : List (List Int)} (w0 : (Lit.int .i64 v0).wf = true) (w1 : v1.size ≤ maxLen) (w2 : v2.size ≤ maxLen) (w3 : (Lit.int .i64 v3).wf = true) (w4 : (Lit.int .i64 v4).wf = true) (w5 : (Lit.int .i64 v5).wf = true) (w7 : (Lit.int .i64 v7).wf = true) (w8 : (Lit.int .i64 v8).wf = true) (w9 : (Lit.int .u64 v9).wf = true) (hA : RowAt w A 1 (rowsK ksArg L)) (hn : L.length = n) (hn9 : n < 1000000) (hL : ∀ x ∈ L, wfK ksArg x) (hg : Wider w W) {B : Nat} (hB : W.heap[B]? = some (.cells #[.int .i64 v0, .string v1, .string v2, .int .i64 v3, .int .i64 v4, .int .i64 v5, .slice A n cap, .int .i64 v7, .int .i64 v8, .int .u64 v9, .bool v10] 39 (0, 0)))
    {b0 : Nat} {x0 x1 x2 x3 x4 x5 x6 x7 x8 x9 x10 : FnP} (hR : RecAt b0 W x [x0, x1, x2, x3, x4, x5, x6, x7, x8, x9, x10]) (hp : NumP .i64 2147483647 (by decide) b0 W x0 (⟨B, 0, none⟩ : Addr) ∧ PartV tK inT relT b0 W x1 (⟨B, 0 + 1, none⟩ : Addr) ∧ PartV tK inT relT b0 W x2 (⟨B, 0 + 2, none⟩ : Addr) ∧ NumP .i64 2147483647 (by decide) b0 W x3 (⟨B, 0 + 3, none⟩ : Addr) ∧ NumP .i64 2147483647 (by decide) b0 W x4 (⟨B, 0 + 4, none⟩ : Addr) ∧ NumP .i64 2147483647 (by decide) b0 W x5 (⟨B, 0 + 5, none⟩ : Addr) ∧ PartV lArgs (inL ksArg) (relL 28 1 ksArg) b0 W x6 (⟨B, 0 + 6, none⟩ : Addr) ∧ NumP .i64 9223372036854775807 (by decide) b0 W x7 (⟨B, 0 + 7, none⟩ : Addr) ∧ NumP .i64 9223372036854775807 (by decide) b0 W x8 (⟨B, 0 + 8, none⟩ : Addr) ∧ NumP .u64 18446744073709551615 (by decide) b0 W x9 (⟨B, 0 + 9, none⟩ : Addr) ∧ PartV nT inB relB b0 W x10 (⟨B, 0 + 10, none⟩ : Addr)) {T : ByteArray} {r : Nat} (hr : PutG csEntry [ValN.num v0, ValN.txt v1, ValN.txt v2, ValN.num v3, ValN.num v4, ValN.num v5, ValN.lst L, ValN.num v7, ValN.num v8, ValN.num v9, ValN.num (if v10 = true then 1 else 0)] T r) : Puts W x T r := by
  obtain ⟨h0, h1, h2, h3, h4, h5, h6, h7, h8, h9, h10⟩ := hp
  refine recput_c hR rfl rfl (fun k p c y e1 e2 e3 T r h => ?_) (by decide) (by decide) (by decide) hr
  match k, e1, e2, e3 with
  | 0, e1, e2, e3 =>
    simp [csEntry] at e1 e2 e3
    subst e1 e2 e3
    exact h0.part.put W (Keeps.refl _ _) _ _ (blk_cell hB 0 rfl) ⟨_, rfl, rfl, w0⟩ T r h
  | 1, e1, e2, e3 =>
    simp [csEntry] at e1 e2 e3
    subst e1 e2 e3
    exact h1.put W (Keeps.refl _ _) _ _ (blk_cell hB 1 rfl) ⟨_, rfl, rfl, w1⟩ T r h
  | 2, e1, e2, e3 =>
    simp [csEntry] at e1 e2 e3
    subst e1 e2 e3
    exact h2.put W (Keeps.refl _ _) _ _ (blk_cell hB 2 rfl) ⟨_, rfl, rfl, w2⟩ T r h
  | 3, e1, e2, e3 =>
    simp [csEntry] at e1 e2 e3
    subst e1 e2 e3
    exact h3.part.put W (Keeps.refl _ _) _ _ (blk_cell hB 3 rfl) ⟨_, rfl, rfl, w3⟩ T r h
  | 4, e1, e2, e3 =>
    simp [csEntry] at e1 e2 e3
    subst e1 e2 e3
    exact h4.part.put W (Keeps.refl _ _) _ _ (blk_cell hB 4 rfl) ⟨_, rfl, rfl, w4⟩ T r h
  | 5, e1, e2, e3 =>
    simp [csEntry] at e1 e2 e3
    subst e1 e2 e3
    exact h5.part.put W (Keeps.refl _ _) _ _ (blk_cell hB 5 rfl) ⟨_, rfl, rfl, w5⟩ T r h
  | 6, e1, e2, e3 =>
    simp [csEntry] at e1 e2 e3
    subst e1 e2 e3
    exact h6.put W (Keeps.refl _ _) _ _ (blk_cell hB 6 rfl) ⟨A, n, cap, L, rfl, rfl, hn, hn9, hA.on hg, hL⟩ T r h
  | 7, e1, e2, e3 =>
    simp [csEntry] at e1 e2 e3
    subst e1 e2 e3
    exact h7.part.put W (Keeps.refl _ _) _ _ (blk_cell hB 7 rfl) ⟨_, rfl, rfl, w7⟩ T r h
  | 8, e1, e2, e3 =>
    simp [csEntry] at e1 e2 e3
    subst e1 e2 e3
    exact h8.part.put W (Keeps.refl _ _) _ _ (blk_cell hB 8 rfl) ⟨_, rfl, rfl, w8⟩ T r h
  | 9, e1, e2, e3 =>
    simp [csEntry] at e1 e2 e3
    subst e1 e2 e3
    exact h9.part.put W (Keeps.refl _ _) _ _ (blk_cell hB 9 rfl) ⟨_, rfl, rfl, w9⟩ T r h
  | 10, e1, e2, e3 =>
    simp [csEntry] at e1 e2 e3
    subst e1 e2 e3
    exact h10.put W (Keeps.refl _ _) _ _ (blk_cell hB 10 rfl) ⟨_, rfl, rfl⟩ T r h
  | k + 11, e1, e2, e3 => simp at e1
set_option maxHeartbeats 2000000 in
theorem putEntry_c (w : World) {v0 : Int} {v1 : ByteArray} {v2 : ByteArray} {v3 : Int} {v4 : Int} {v5 : Int} {v7 : Int} {v8 : Int} {v9 : Int} {v10 : Bool} {A : Option Addr} {n cap : Nat} {L : List (List Int)} (w0 : (Lit.int .i64 v0).wf = true) (w1 : v1.size ≤ maxLen) (w2 : v2.size ≤ maxLen) (w3 : (Lit.int .i64 v3).wf = true) (w4 : (Lit.int .i64 v4).wf = true) (w5 : (Lit.int .i64 v5).wf = true) (w7 : (Lit.int .i64 v7).wf = true) (w8 : (Lit.int .i64 v8).wf = true) (w9 : (Lit.int .u64 v9).wf = true) (hA : RowAt w A 1 (rowsK ksArg L)) (hn : L.length = n) (hn9 : n < 1000000) (hL : ∀ x ∈ L, wfK ksArg x) {T : ByteArray} {r : Nat} (hr : PutG csEntry [ValN.num v0, ValN.txt v1, ValN.txt v2, ValN.num v3, ValN.num v4, ValN.num v5, ValN.lst L, ValN.num v7, ValN.num v8, ValN.num v9, ValN.num (if v10 = true then 1 else 0)] T r) :
    Calls Tryz.prog 115 #[.agg #[.int .i64 v0, .string v1, .string v2, .int .i64 v3, .int .i64 v4, .int .i64 v5, .slice A n cap, .int .i64 v7, .int .i64 v8, .int .u64 v9, .bool v10]] w fun e w' => e = .returned (.tuple #[.string T, .int .i64 (r : Int)]) ∧ Wider w w' := by
  have H := (Own.nil (Wider.refl w)).blk #[.int .i64 v0, .string v1, .string v2, .int .i64 v3, .int .i64 v4, .int .i64 v5, .slice A n cap, .int .i64 v7, .int .i64 v8, .int .u64 v9, .bool v10] 39
  have zs := entry_s (w.alloc (.cells #[.int .i64 v0, .string v1, .string v2, .int .i64 v3, .int .i64 v4, .int .i64 v5, .slice A n cap, .int .i64 v7, .int .i64 v8, .int .u64 v9, .bool v10] 39)) ⟨w.heap.size, 0, none⟩
  have hfp := fld_put
  have HH := Lib.hid H
  clear H
  go_enter Tryz.func115, Tryz.ntmps115
  go_wp2_with (first
    | (go_at_call 131; (with_reducible refine zs.mono ?_); rintro e wA ⟨x, rfl, g1, x0, x1, x2, x3, x4, x5, x6, x7, x8, x9, x10, hR, hp⟩; have hq := entry_puts (w0 := w0) (w1 := w1) (w2 := w2) (w3 := w3) (w4 := w4) (w5 := w5) (w7 := w7) (w8 := w8) (w9 := w9) (hA := hA) (hn := hn) (hn9 := hn9) (hL := hL) (((Wider.refl w).alloc _).trans g1) (HH.out.quiet g1).head hR hp hr; have ent : ∀ (args : Array Value) (w : World), (callFunc x.pf args).run Tryz.prog w = .ok (.enter x.pf args) w := hq.1; have hq2 := hq.2 wA (Wider.refl _); clear hq hR hp)
    | (go_at_fn x.pf; (with_reducible refine hq2.mono ?_); rintro e wB ⟨rfl, g2⟩))
  go_ret2
  exact ⟨rfl, (((Wider.refl w).alloc _).trans g1).trans g2⟩
end Go.Proofs.YtilpimilbjcifaaGreatDoor

/- Package obj's MayBlock and PutBlock, by walks. -/
namespace Go.Proofs.YtilpimilbjcifaaGreatDoor
set_option linter.unusedVariables false
set_option maxRecDepth 20000
open Go.ChangeShapes Go.WideShapes Go.ChangeAt Go.RowKit Go.Joins
open Go.ChangeMaps (open_string shut_string)
theorem block_puts {w W : World} {x : FnP} {v0 : Int} {A : Option Addr} {n cap : Nat} {L : List (List Int)} (w0 : (Lit.int .i64 v0).wf = true) (hA : RowAt w A 7 (rowsK ksInstr L)) (hn : L.length = n) (hn9 : n < 1000000) (hL : ∀ x ∈ L, wfK ksInstr x) (hg : Wider w W) {B : Nat} (hB : W.heap[B]? = some (.cells #[.int .i64 v0, .slice A n cap] 42 (0, 0)))
    {b0 : Nat} {x0 x1 : FnP} (hR : RecAt b0 W x [x0, x1]) (hp : NumP .i64 2147483647 (by decide) b0 W x0 (⟨B, 0, none⟩ : Addr) ∧ PartV lCode (inL ksInstr) (relL 66 7 ksInstr) b0 W x1 (⟨B, 0 + 1, none⟩ : Addr)) {T : ByteArray} {r : Nat} (hr : PutG csBlock [ValN.num v0, ValN.lst L] T r) : Puts W x T r := by
  obtain ⟨h0, h1⟩ := hp
  refine recput_c hR rfl rfl (fun k p c y e1 e2 e3 T r h => ?_) (by decide) (by decide) (by decide) hr
  match k, e1, e2, e3 with
  | 0, e1, e2, e3 =>
    simp [csBlock] at e1 e2 e3
    subst e1 e2 e3
    exact h0.part.put W (Keeps.refl _ _) _ _ (blk_cell hB 0 rfl) ⟨_, rfl, rfl, w0⟩ T r h
  | 1, e1, e2, e3 =>
    simp [csBlock] at e1 e2 e3
    subst e1 e2 e3
    exact h1.put W (Keeps.refl _ _) _ _ (blk_cell hB 1 rfl) ⟨A, n, cap, L, rfl, rfl, hn, hn9, hA.on hg, hL⟩ T r h
  | k + 2, e1, e2, e3 => simp at e1
set_option maxHeartbeats 2000000 in
theorem putBlock_c (w : World) {v0 : Int} {A : Option Addr} {n cap : Nat} {L : List (List Int)} (w0 : (Lit.int .i64 v0).wf = true) (hA : RowAt w A 7 (rowsK ksInstr L)) (hn : L.length = n) (hn9 : n < 1000000) (hL : ∀ x ∈ L, wfK ksInstr x) {T : ByteArray} {r : Nat} (hr : PutG csBlock [ValN.num v0, ValN.lst L] T r) :
    Calls Tryz.prog 116 #[.agg #[.int .i64 v0, .slice A n cap]] w fun e w' => e = .returned (.tuple #[.string T, .int .i64 (r : Int)]) ∧ Wider w w' := by
  have H := (Own.nil (Wider.refl w)).blk #[.int .i64 v0, .slice A n cap] 42
  have zs := block_s (w.alloc (.cells #[.int .i64 v0, .slice A n cap] 42)) ⟨w.heap.size, 0, none⟩
  have hfp := fld_put
  have HH := Lib.hid H
  clear H
  go_enter Tryz.func116, Tryz.ntmps116
  go_wp2_with (first
    | (go_at_call 133; (with_reducible refine zs.mono ?_); rintro e wA ⟨x, rfl, g1, x0, x1, hR, hp⟩; have hq := block_puts (w0 := w0) (hA := hA) (hn := hn) (hn9 := hn9) (hL := hL) (((Wider.refl w).alloc _).trans g1) (HH.out.quiet g1).head hR hp hr; have ent : ∀ (args : Array Value) (w : World), (callFunc x.pf args).run Tryz.prog w = .ok (.enter x.pf args) w := hq.1; have hq2 := hq.2 wA (Wider.refl _); clear hq hR hp)
    | (go_at_fn x.pf; (with_reducible refine hq2.mono ?_); rintro e wB ⟨rfl, g2⟩))
  go_ret2
  exact ⟨rfl, (((Wider.refl w).alloc _).trans g1).trans g2⟩
end Go.Proofs.YtilpimilbjcifaaGreatDoor

/- Package obj's MayGroup and PutGroup, by walks. -/
namespace Go.Proofs.YtilpimilbjcifaaGreatDoor
set_option linter.unusedVariables false
set_option maxRecDepth 20000
open Go.ChangeShapes Go.WideShapes Go.ChangeAt Go.RowKit Go.Joins
open Go.ChangeMaps (open_string shut_string)
theorem group_puts {w W : World} {x : FnP} {v0 : Int} {v1 : Int} {v2 : Int} {A : Option Addr} {n cap : Nat} {L : List (List Int)} (w0 : (Lit.int .i64 v0).wf = true) (w1 : (Lit.int .u8 v1).wf = true) (w2 : (Lit.int .i64 v2).wf = true) (hA : RowAt w A 2 (rowsK ksBucket L)) (hn : L.length = n) (hn9 : n < 1000000) (hL : ∀ x ∈ L, wfK ksBucket x) (hg : Wider w W) {B : Nat} (hB : W.heap[B]? = some (.cells #[.int .i64 v0, .int .u8 v1, .int .i64 v2, .slice A n cap] 45 (0, 0)))
    {b0 : Nat} {x0 x1 x2 x3 : FnP} (hR : RecAt b0 W x [x0, x1, x2, x3]) (hp : NumP .i64 2147483647 (by decide) b0 W x0 (⟨B, 0, none⟩ : Addr) ∧ NumP .u8 255 (by decide) b0 W x1 (⟨B, 0 + 1, none⟩ : Addr) ∧ NumP .i64 2147483647 (by decide) b0 W x2 (⟨B, 0 + 2, none⟩ : Addr) ∧ PartV lBuckets (inL ksBucket) (relL 150 2 ksBucket) b0 W x3 (⟨B, 0 + 3, none⟩ : Addr)) {T : ByteArray} {r : Nat} (hr : PutG csGroup [ValN.num v0, ValN.num v1, ValN.num v2, ValN.lst L] T r) : Puts W x T r := by
  obtain ⟨h0, h1, h2, h3⟩ := hp
  refine recput_c hR rfl rfl (fun k p c y e1 e2 e3 T r h => ?_) (by decide) (by decide) (by decide) hr
  match k, e1, e2, e3 with
  | 0, e1, e2, e3 =>
    simp [csGroup] at e1 e2 e3
    subst e1 e2 e3
    exact h0.part.put W (Keeps.refl _ _) _ _ (blk_cell hB 0 rfl) ⟨_, rfl, rfl, w0⟩ T r h
  | 1, e1, e2, e3 =>
    simp [csGroup] at e1 e2 e3
    subst e1 e2 e3
    exact h1.part.put W (Keeps.refl _ _) _ _ (blk_cell hB 1 rfl) ⟨_, rfl, rfl, w1⟩ T r h
  | 2, e1, e2, e3 =>
    simp [csGroup] at e1 e2 e3
    subst e1 e2 e3
    exact h2.part.put W (Keeps.refl _ _) _ _ (blk_cell hB 2 rfl) ⟨_, rfl, rfl, w2⟩ T r h
  | 3, e1, e2, e3 =>
    simp [csGroup] at e1 e2 e3
    subst e1 e2 e3
    exact h3.put W (Keeps.refl _ _) _ _ (blk_cell hB 3 rfl) ⟨A, n, cap, L, rfl, rfl, hn, hn9, hA.on hg, hL⟩ T r h
  | k + 4, e1, e2, e3 => simp at e1
set_option maxHeartbeats 2000000 in
theorem putGroup_c (w : World) {v0 : Int} {v1 : Int} {v2 : Int} {A : Option Addr} {n cap : Nat} {L : List (List Int)} (w0 : (Lit.int .i64 v0).wf = true) (w1 : (Lit.int .u8 v1).wf = true) (w2 : (Lit.int .i64 v2).wf = true) (hA : RowAt w A 2 (rowsK ksBucket L)) (hn : L.length = n) (hn9 : n < 1000000) (hL : ∀ x ∈ L, wfK ksBucket x) {T : ByteArray} {r : Nat} (hr : PutG csGroup [ValN.num v0, ValN.num v1, ValN.num v2, ValN.lst L] T r) :
    Calls Tryz.prog 117 #[.agg #[.int .i64 v0, .int .u8 v1, .int .i64 v2, .slice A n cap]] w fun e w' => e = .returned (.tuple #[.string T, .int .i64 (r : Int)]) ∧ Wider w w' := by
  have H := (Own.nil (Wider.refl w)).blk #[.int .i64 v0, .int .u8 v1, .int .i64 v2, .slice A n cap] 45
  have zs := group_s (w.alloc (.cells #[.int .i64 v0, .int .u8 v1, .int .i64 v2, .slice A n cap] 45)) ⟨w.heap.size, 0, none⟩
  have hfp := fld_put
  have HH := Lib.hid H
  clear H
  go_enter Tryz.func117, Tryz.ntmps117
  go_wp2_with (first
    | (go_at_call 135; (with_reducible refine zs.mono ?_); rintro e wA ⟨x, rfl, g1, x0, x1, x2, x3, hR, hp⟩; have hq := group_puts (w0 := w0) (w1 := w1) (w2 := w2) (hA := hA) (hn := hn) (hn9 := hn9) (hL := hL) (((Wider.refl w).alloc _).trans g1) (HH.out.quiet g1).head hR hp hr; have ent : ∀ (args : Array Value) (w : World), (callFunc x.pf args).run Tryz.prog w = .ok (.enter x.pf args) w := hq.1; have hq2 := hq.2 wA (Wider.refl _); clear hq hR hp)
    | (go_at_fn x.pf; (with_reducible refine hq2.mono ?_); rintro e wB ⟨rfl, g2⟩))
  go_ret2
  exact ⟨rfl, (((Wider.refl w).alloc _).trans g1).trans g2⟩
end Go.Proofs.YtilpimilbjcifaaGreatDoor

/- Package obj's MayMeter and PutMeter, by walks. -/
namespace Go.Proofs.YtilpimilbjcifaaGreatDoor
set_option linter.unusedVariables false
set_option maxRecDepth 20000
open Go.ChangeShapes Go.WideShapes Go.ChangeAt Go.RowKit Go.Joins
open Go.ChangeMaps (open_string shut_string)
theorem meter_puts {w W : World} {x : FnP} {v0 : Int} {v1 : Int} {v2 : Int} (w0 : (Lit.int .i64 v0).wf = true) (w1 : (Lit.int .i64 v1).wf = true) (w2 : (Lit.int .i64 v2).wf = true) (hg : Wider w W) {B : Nat} (hB : W.heap[B]? = some (.cells #[.int .i64 v0, .int .i64 v1, .int .i64 v2] 47 (0, 0)))
    {b0 : Nat} {x0 x1 x2 : FnP} (hR : RecAt b0 W x [x0, x1, x2]) (hp : NumP .i64 2147483647 (by decide) b0 W x0 (⟨B, 0, none⟩ : Addr) ∧ NumP .i64 9223372036854775807 (by decide) b0 W x1 (⟨B, 0 + 1, none⟩ : Addr) ∧ NumP .i64 9223372036854775807 (by decide) b0 W x2 (⟨B, 0 + 2, none⟩ : Addr)) {T : ByteArray} {r : Nat} (hr : PutG csMeter [ValN.num v0, ValN.num v1, ValN.num v2] T r) : Puts W x T r := by
  obtain ⟨h0, h1, h2⟩ := hp
  refine recput_c hR rfl rfl (fun k p c y e1 e2 e3 T r h => ?_) (by decide) (by decide) (by decide) hr
  match k, e1, e2, e3 with
  | 0, e1, e2, e3 =>
    simp [csMeter] at e1 e2 e3
    subst e1 e2 e3
    exact h0.part.put W (Keeps.refl _ _) _ _ (blk_cell hB 0 rfl) ⟨_, rfl, rfl, w0⟩ T r h
  | 1, e1, e2, e3 =>
    simp [csMeter] at e1 e2 e3
    subst e1 e2 e3
    exact h1.part.put W (Keeps.refl _ _) _ _ (blk_cell hB 1 rfl) ⟨_, rfl, rfl, w1⟩ T r h
  | 2, e1, e2, e3 =>
    simp [csMeter] at e1 e2 e3
    subst e1 e2 e3
    exact h2.part.put W (Keeps.refl _ _) _ _ (blk_cell hB 2 rfl) ⟨_, rfl, rfl, w2⟩ T r h
  | k + 3, e1, e2, e3 => simp at e1
set_option maxHeartbeats 2000000 in
theorem putMeter_c (w : World) {v0 : Int} {v1 : Int} {v2 : Int} (w0 : (Lit.int .i64 v0).wf = true) (w1 : (Lit.int .i64 v1).wf = true) (w2 : (Lit.int .i64 v2).wf = true) {T : ByteArray} {r : Nat} (hr : PutG csMeter [ValN.num v0, ValN.num v1, ValN.num v2] T r) :
    Calls Tryz.prog 118 #[.agg #[.int .i64 v0, .int .i64 v1, .int .i64 v2]] w fun e w' => e = .returned (.tuple #[.string T, .int .i64 (r : Int)]) ∧ Wider w w' := by
  have H := (Own.nil (Wider.refl w)).blk #[.int .i64 v0, .int .i64 v1, .int .i64 v2] 47
  have zs := meter_s (w.alloc (.cells #[.int .i64 v0, .int .i64 v1, .int .i64 v2] 47)) ⟨w.heap.size, 0, none⟩
  have hfp := fld_put
  have HH := Lib.hid H
  clear H
  go_enter Tryz.func118, Tryz.ntmps118
  go_wp2_with (first
    | (go_at_call 137; (with_reducible refine zs.mono ?_); rintro e wA ⟨x, rfl, g1, x0, x1, x2, hR, hp⟩; have hq := meter_puts (w0 := w0) (w1 := w1) (w2 := w2) (((Wider.refl w).alloc _).trans g1) (HH.out.quiet g1).head hR hp hr; have ent : ∀ (args : Array Value) (w : World), (callFunc x.pf args).run Tryz.prog w = .ok (.enter x.pf args) w := hq.1; have hq2 := hq.2 wA (Wider.refl _); clear hq hR hp)
    | (go_at_fn x.pf; (with_reducible refine hq2.mono ?_); rintro e wB ⟨rfl, g2⟩))
  go_ret2
  exact ⟨rfl, (((Wider.refl w).alloc _).trans g1).trans g2⟩
end Go.Proofs.YtilpimilbjcifaaGreatDoor

/- Package obj's MayRegs and PutRegs, by walks. -/
namespace Go.Proofs.YtilpimilbjcifaaGreatDoor
set_option linter.unusedVariables false
set_option maxRecDepth 20000
open Go.ChangeShapes Go.WideShapes Go.ChangeAt Go.RowKit Go.Joins
open Go.ChangeMaps (open_string shut_string)
theorem regs_puts {w W : World} {x : FnP} {v0 : Int} {v1 : Int} (w0 : (Lit.int .i64 v0).wf = true) (w1 : (Lit.int .i64 v1).wf = true) (hg : Wider w W) {B : Nat} (hB : W.heap[B]? = some (.cells #[.int .i64 v0, .int .i64 v1] 49 (0, 0)))
    {b0 : Nat} {x0 x1 : FnP} (hR : RecAt b0 W x [x0, x1]) (hp : NumP .i64 2147483647 (by decide) b0 W x0 (⟨B, 0, none⟩ : Addr) ∧ NumP .i64 2147483647 (by decide) b0 W x1 (⟨B, 0 + 1, none⟩ : Addr)) {T : ByteArray} {r : Nat} (hr : PutG csRegs [ValN.num v0, ValN.num v1] T r) : Puts W x T r := by
  obtain ⟨h0, h1⟩ := hp
  refine recput_c hR rfl rfl (fun k p c y e1 e2 e3 T r h => ?_) (by decide) (by decide) (by decide) hr
  match k, e1, e2, e3 with
  | 0, e1, e2, e3 =>
    simp [csRegs] at e1 e2 e3
    subst e1 e2 e3
    exact h0.part.put W (Keeps.refl _ _) _ _ (blk_cell hB 0 rfl) ⟨_, rfl, rfl, w0⟩ T r h
  | 1, e1, e2, e3 =>
    simp [csRegs] at e1 e2 e3
    subst e1 e2 e3
    exact h1.part.put W (Keeps.refl _ _) _ _ (blk_cell hB 1 rfl) ⟨_, rfl, rfl, w1⟩ T r h
  | k + 2, e1, e2, e3 => simp at e1
set_option maxHeartbeats 2000000 in
theorem putRegs_c (w : World) {v0 : Int} {v1 : Int} (w0 : (Lit.int .i64 v0).wf = true) (w1 : (Lit.int .i64 v1).wf = true) {T : ByteArray} {r : Nat} (hr : PutG csRegs [ValN.num v0, ValN.num v1] T r) :
    Calls Tryz.prog 119 #[.agg #[.int .i64 v0, .int .i64 v1]] w fun e w' => e = .returned (.tuple #[.string T, .int .i64 (r : Int)]) ∧ Wider w w' := by
  have H := (Own.nil (Wider.refl w)).blk #[.int .i64 v0, .int .i64 v1] 49
  have zs := regs_s (w.alloc (.cells #[.int .i64 v0, .int .i64 v1] 49)) ⟨w.heap.size, 0, none⟩
  have hfp := fld_put
  have HH := Lib.hid H
  clear H
  go_enter Tryz.func119, Tryz.ntmps119
  go_wp2_with (first
    | (go_at_call 139; (with_reducible refine zs.mono ?_); rintro e wA ⟨x, rfl, g1, x0, x1, hR, hp⟩; have hq := regs_puts (w0 := w0) (w1 := w1) (((Wider.refl w).alloc _).trans g1) (HH.out.quiet g1).head hR hp hr; have ent : ∀ (args : Array Value) (w : World), (callFunc x.pf args).run Tryz.prog w = .ok (.enter x.pf args) w := hq.1; have hq2 := hq.2 wA (Wider.refl _); clear hq hR hp)
    | (go_at_fn x.pf; (with_reducible refine hq2.mono ?_); rintro e wB ⟨rfl, g2⟩))
  go_ret2
  exact ⟨rfl, (((Wider.refl w).alloc _).trans g1).trans g2⟩
end Go.Proofs.YtilpimilbjcifaaGreatDoor
