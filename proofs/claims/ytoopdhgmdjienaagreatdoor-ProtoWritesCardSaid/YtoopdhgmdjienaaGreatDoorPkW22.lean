/- ORepGroup OKindMeter OTopMeter ORdMeter ORepMeter OKindRegs OTopRegs ORdRegs ORepRegs OMsgR -/
import Derived.Test.YtoopdhgmdjienaaGreatDoorPkW21
import Derived.Test.YtoopdhgmdjienaaGreatDoorPkW16
import Derived.Test.YtoopdhgmdjienaaGreatDoorPkW14
import Derived.Test.YtoopdhgmdjienaaGreatDoorPkW15
import Derived.Test.YtoopdhgmdjienaaGreatDoorPkW18
import Derived.Test.YtoopdhgmdjienaaGreatDoorPkW19
import Derived.Test.YtoopdhgmdjienaaGreatDoorPkW20
namespace Go.Proofs.YtoopdhgmdjienaaGreatDoor
set_option linter.unusedVariables false
set_option maxRecDepth 20000
open Go.ChangeShapes Go.WideShapes Go.ChangeAt Go.RowKit Go.Joins
open Go.ChangeMaps (open_string shut_string)
def RepGroup (w : World) (c : Array Value) (vs : List ValN) : Prop :=
 ∃ (v0 v1 v2 : Int) (A : Option Addr) (n cap : Nat) (L : List (List Int)), c = #[.int .i64 v0, .int .u8 v1, .int .i64 v2, .slice A n cap] ∧ vs = [ValN.num v0, ValN.num v1, ValN.num v2, ValN.lst L] ∧ (Lit.int .i64 v0).wf = true ∧ (Lit.int .u8 v1).wf = true ∧ (Lit.int .i64 v2).wf = true ∧ RowAt w A 2 (rowsK ksBucket L) ∧ L.length = n ∧ n < 1000000 ∧ ∀ x ∈ L, wfK ksBucket x
theorem RepGroup.on {W w : World} {c : Array Value} {vs : List ValN} (h : RepGroup W c vs) (g : Wider W w) : RepGroup w c vs := by
 obtain ⟨v0, v1, v2, A, n, cap, L, rfl, rfl, w0, w1, w2, hA, hn, hn9, hL⟩ := h
 exact ⟨v0, v1, v2, A, n, cap, L, rfl, rfl, w0, w1, w2, hA.on g, hn, hn9, hL⟩
theorem RepGroup.size {w : World} {c : Array Value} {vs : List ValN} (h : RepGroup w c vs) : c.size = 4 := by
 obtain ⟨v0, v1, v2, A, n, cap, L, rfl, rfl, w0, w1, w2, hA, hn, hn9, hL⟩ := h
 rfl
theorem RepGroup.put {w : World} {c : Array Value} {vs : List ValN} (h : RepGroup w c vs) {T : ByteArray} {r : Nat} (hr : PutG csGroup vs T r) :
 Calls Tryz.prog 117 #[.agg c] w fun e w' => e = .returned (.tuple #[.string T, .int .i64 (r : Int)]) ∧ Wider w w' := by
 obtain ⟨v0, v1, v2, A, n, cap, L, rfl, rfl, w0, w1, w2, hA, hn, hn9, hL⟩ := h
 exact putGroup_c w (w0 := w0) (w1 := w1) (w2 := w2) (hA := hA) (hn := hn) (hn9 := hn9) (hL := hL) hr
set_option maxHeartbeats 8000000 in
theorem meter_s (w : World) (p : Addr) :
 Calls Tryz.prog 137 #[.pointer (some p)] w fun e w' => ∃ x : FnP, e = .returned (.agg #[.func (.func x.pf) #[] x.pc, .func (.func x.gf) #[] x.gc]) ∧ Wider w w' ∧ ∃ x0 x1 x2 : FnP, RecAt w.heap.size w' x [x0, x1, x2] ∧ NumP .i64 2147483647 (by decide) w.heap.size w' x0 p ∧ NumP .i64 9223372036854775807 (by decide) w.heap.size w' x1 ⟨p.block, p.off + 1, none⟩ ∧ NumP .i64 9223372036854775807 (by decide) w.heap.size w' x2 ⟨p.block, p.off + 2, none⟩ := by
 have H := (Own.nil (Wider.refl w)).blk #[.nilFunc, .nilFunc] 200
 have hs : (w.alloc (.cells #[.nilFunc, .nilFunc] 200)).heap.size = w.heap.size + 1 := by simp
 have b0 : w.heap.size < (w.alloc (.cells #[.nilFunc, .nilFunc] 200)).drew.heap.size := by show w.heap.size < (w.alloc _).heap.size; rw [hs]; omega
 have zr : ∀ (W : World) (t : TypeId) (x0 x1 x2 : FnP), w.heap.size < W.heap.size → Calls Tryz.prog 161 #[.slice (some ⟨W.heap.size, 0, none⟩) 3 3] (W.alloc (.cells #[.func (.func x0.pf) #[] x0.pc, .func (.func x0.gf) #[] x0.gc, .func (.func x1.pf) #[] x1.pc, .func (.func x1.gf) #[] x1.gc, .func (.func x2.pf) #[] x2.pc, .func (.func x2.gf) #[] x2.gc] t)) fun e w' => ∃ x : FnP, e = .returned (.agg #[.func (.func x.pf) #[] x.pc, .func (.func x.gf) #[] x.gc]) ∧ Wider (W.alloc (.cells #[.func (.func x0.pf) #[] x0.pc, .func (.func x0.gf) #[] x0.gc, .func (.func x1.pf) #[] x1.pc, .func (.func x1.gf) #[] x1.gc, .func (.func x2.pf) #[] x2.pc, .func (.func x2.gf) #[] x2.gc] t)) w' ∧ RecAt (w.heap.size + 1) w' x [x0, x1, x2] :=
  fun W t x0 x1 x2 h => record_c _ (ps := [x0, x1, x2]) (heap_alloc_new W _) rfl h
 have p0 := add0 p
 have B0 := Lib.hid b0
 have HH := Lib.hid (H.quiet (Wider.refl _).drew)
 clear hs b0 H
 go_enter Tryz.func137, Tryz.ntmps137
 go_upto_region 1 with (fail)
 go_region_law (first
  | (go_simp; go_at_call 162; (with_reducible refine (owhole_c _ p).mono ?_); rintro e w1 ⟨x0, rfl, g0, h0⟩; have B1 : Hid (w.heap.size < w1.heap.size) := Nat.lt_of_lt_of_le B0.out g0.2; have S0 := Lib.hid h0; have T0 := Lib.hid g0; clear h0 g0)
  | (go_simp; go_at_call 170; (with_reducible refine (osigned_c _ ⟨p.block, p.off + 1, none⟩).mono ?_); rintro e w2 ⟨x1, rfl, g1, h1⟩; have B2 : Hid (w.heap.size < w2.heap.size) := Nat.lt_of_lt_of_le B1.out g1.2; have S1 := Lib.hid h1; have T1 := Lib.hid g1; clear h1 g1)
  | (go_simp; go_at_call 170; (with_reducible refine (osigned_c _ ⟨p.block, p.off + 2, none⟩).mono ?_); rintro e w3 ⟨x2, rfl, g2, h2⟩; have B3 : Hid (w.heap.size < w3.heap.size) := Nat.lt_of_lt_of_le B2.out g2.2; have S2 := Lib.hid h2; have T2 := Lib.hid g2; clear h2 g2)
  | (go_simp; go_at_call 161; (with_reducible refine (zr _ _ x0 x1 x2 B3.out).mono ?_); rintro e wR ⟨xr, rfl, gR, hR⟩; have HW := ((((HH.out.quiet T0.out).quiet T1.out).quiet T2.out).quiet ((Wider.refl w3).alloc _)).quiet gR; have k0 := blk_cell HW.head 0 (v := .nilFunc) rfl; have k1 := blk_cell HW.head 1 (v := .nilFunc) rfl; have f0 := blk_free HW.head 0; have f1 := blk_free HW.head 1; have SR := Lib.hid hR; have TR := Lib.hid gR; clear hR gR))
 all_goals
  have H2 := (HW.store 0 (.func (.func xr.pf) #[] xr.pc)).store 1 (.func (.func xr.gf) #[] xr.gc)
  have d0 := blk_cell H2.head 0 (v := .func (.func xr.pf) #[] xr.pc) rfl
  have d1 := blk_cell H2.head 1 (v := .func (.func xr.gf) #[] xr.gc) rfl
  have KS : ∀ b, w.heap.size < b → Keeps b wR ((wR.setCell ⟨w.heap.size, 0, none⟩ (.func (.func xr.pf) #[] xr.pc)).setCell ⟨w.heap.size, 1, none⟩ (.func (.func xr.gf) #[] xr.gc)) := fun b hb => (keeps_set wR hb).trans (keeps_set _ hb)
  clear k0 k1 f0 f1 HW
  go_wp2
  simp [bodyPost, results, Tryz.results137, go_sem, d0, d1]
  exact ⟨xr, ⟨⟨rfl, rfl⟩, rfl, rfl⟩, H2.wider, x0, x1, x2, SR.out.on (KS _ (Nat.lt_succ_self _)) (Nat.le_succ _), S0.out.on (((((((Wider.refl w1).trans T1.out).trans T2.out).alloc _).trans TR.out).keeps _).trans (KS _ B0.out)) (Nat.le_of_lt B0.out), S1.out.on ((((((Wider.refl w2).trans T2.out).alloc _).trans TR.out).keeps _).trans (KS _ B1.out)) (Nat.le_of_lt B1.out), S2.out.on (((((Wider.refl w3).alloc _).trans TR.out).keeps _).trans (KS _ B2.out)) (Nat.le_of_lt B2.out)⟩
theorem meter_puts {w W : World} {x : FnP} {v0 : Int} {v1 : Int} {v2 : Int} (w0 : (Lit.int .i64 v0).wf = true) (w1 : (Lit.int .i64 v1).wf = true) (w2 : (Lit.int .i64 v2).wf = true) (hg : Wider w W) {B : Nat} (hB : W.heap[B]? = some (.cells #[.int .i64 v0, .int .i64 v1, .int .i64 v2] 47 (0, 0)))
 {b0 : Nat} {x0 x1 x2 : FnP} (hR : RecAt b0 W x [x0, x1, x2]) (hp : NumP .i64 2147483647 (by decide) b0 W x0 (⟨B, 0, none⟩ : Addr) ∧ NumP .i64 9223372036854775807 (by decide) b0 W x1 (⟨B, 0 + 1, none⟩ : Addr) ∧ NumP .i64 9223372036854775807 (by decide) b0 W x2 (⟨B, 0 + 2, none⟩ : Addr)) {T : ByteArray} {r : Nat} (hr : PutG csMeter [ValN.num v0, ValN.num v1, ValN.num v2] T r) : Puts W x T r := by
 obtain ⟨h0, h1, h2⟩ := hp
 refine recput_c hR rfl rfl (fun k p c y e1 e2 e3 T r h => ?_) (by decide) (by decide) (by decide) hr
 match k, e1, e2, e3 with
 | 0, e1, e2, e3 =>
   simp [csMeter] at e1 e2 e3
   subst e1 e2 e3
   exact h0.part.put W (Keeps.refl _ _) _ _ (blk_cell hB 0 rfl) ⟨_, rfl, rfl, w0⟩ T r h
 | 1, e1, e2, e3 =>
   simp [csMeter] at e1 e2 e3
   subst e1 e2 e3
   exact h1.part.put W (Keeps.refl _ _) _ _ (blk_cell hB 1 rfl) ⟨_, rfl, rfl, w1⟩ T r h
 | 2, e1, e2, e3 =>
   simp [csMeter] at e1 e2 e3
   subst e1 e2 e3
   exact h2.part.put W (Keeps.refl _ _) _ _ (blk_cell hB 2 rfl) ⟨_, rfl, rfl, w2⟩ T r h
 | k + 3, e1, e2, e3 => simp at e1
set_option maxHeartbeats 2000000 in
theorem putMeter_c (w : World) {v0 : Int} {v1 : Int} {v2 : Int} (w0 : (Lit.int .i64 v0).wf = true) (w1 : (Lit.int .i64 v1).wf = true) (w2 : (Lit.int .i64 v2).wf = true) {T : ByteArray} {r : Nat} (hr : PutG csMeter [ValN.num v0, ValN.num v1, ValN.num v2] T r) :
 Calls Tryz.prog 118 #[.agg #[.int .i64 v0, .int .i64 v1, .int .i64 v2]] w fun e w' => e = .returned (.tuple #[.string T, .int .i64 (r : Int)]) ∧ Wider w w' := by
 have H := (Own.nil (Wider.refl w)).blk #[.int .i64 v0, .int .i64 v1, .int .i64 v2] 47
 have zs := meter_s (w.alloc (.cells #[.int .i64 v0, .int .i64 v1, .int .i64 v2] 47)) ⟨w.heap.size, 0, none⟩
 have hfp := fld_put
 have HH := Lib.hid H
 clear H
 go_enter Tryz.func118, Tryz.ntmps118
 go_wp2_with (first
  | (go_at_call 137; (with_reducible refine zs.mono ?_); rintro e wA ⟨x, rfl, g1, x0, x1, x2, hR, hp⟩; have hq := meter_puts (w0 := w0) (w1 := w1) (w2 := w2) (((Wider.refl w).alloc _).trans g1) (HH.out.quiet g1).head hR hp hr; have ent : ∀ (args : Array Value) (w : World), (callFunc x.pf args).run Tryz.prog w = .ok (.enter x.pf args) w := hq.1; have hq2 := hq.2 wA (Wider.refl _); clear hq hR hp)
  | (go_at_fn x.pf; (with_reducible refine hq2.mono ?_); rintro e wB ⟨rfl, g2⟩))
 go_ret2
 exact ⟨rfl, (((Wider.refl w).alloc _).trans g1).trans g2⟩
def RepMeter (w : World) (c : Array Value) (vs : List ValN) : Prop :=
 ∃ (v0 v1 v2 : Int), c = #[.int .i64 v0, .int .i64 v1, .int .i64 v2] ∧ vs = [ValN.num v0, ValN.num v1, ValN.num v2] ∧ (Lit.int .i64 v0).wf = true ∧ (Lit.int .i64 v1).wf = true ∧ (Lit.int .i64 v2).wf = true
theorem RepMeter.on {W w : World} {c : Array Value} {vs : List ValN} (h : RepMeter W c vs) (g : Wider W w) : RepMeter w c vs := by
 obtain ⟨v0, v1, v2, rfl, rfl, w0, w1, w2⟩ := h
 exact ⟨v0, v1, v2, rfl, rfl, w0, w1, w2⟩
theorem RepMeter.size {w : World} {c : Array Value} {vs : List ValN} (h : RepMeter w c vs) : c.size = 3 := by
 obtain ⟨v0, v1, v2, rfl, rfl, w0, w1, w2⟩ := h
 rfl
theorem RepMeter.put {w : World} {c : Array Value} {vs : List ValN} (h : RepMeter w c vs) {T : ByteArray} {r : Nat} (hr : PutG csMeter vs T r) :
 Calls Tryz.prog 118 #[.agg c] w fun e w' => e = .returned (.tuple #[.string T, .int .i64 (r : Int)]) ∧ Wider w w' := by
 obtain ⟨v0, v1, v2, rfl, rfl, w0, w1, w2⟩ := h
 exact putMeter_c w (w0 := w0) (w1 := w1) (w2 := w2) hr
set_option maxHeartbeats 8000000 in
theorem regs_s (w : World) (p : Addr) :
 Calls Tryz.prog 139 #[.pointer (some p)] w fun e w' => ∃ x : FnP, e = .returned (.agg #[.func (.func x.pf) #[] x.pc, .func (.func x.gf) #[] x.gc]) ∧ Wider w w' ∧ ∃ x0 x1 : FnP, RecAt w.heap.size w' x [x0, x1] ∧ NumP .i64 2147483647 (by decide) w.heap.size w' x0 p ∧ NumP .i64 2147483647 (by decide) w.heap.size w' x1 ⟨p.block, p.off + 1, none⟩ := by
 have H := (Own.nil (Wider.refl w)).blk #[.nilFunc, .nilFunc] 200
 have hs : (w.alloc (.cells #[.nilFunc, .nilFunc] 200)).heap.size = w.heap.size + 1 := by simp
 have b0 : w.heap.size < (w.alloc (.cells #[.nilFunc, .nilFunc] 200)).drew.heap.size := by show w.heap.size < (w.alloc _).heap.size; rw [hs]; omega
 have zr : ∀ (W : World) (t : TypeId) (x0 x1 : FnP), w.heap.size < W.heap.size → Calls Tryz.prog 161 #[.slice (some ⟨W.heap.size, 0, none⟩) 2 2] (W.alloc (.cells #[.func (.func x0.pf) #[] x0.pc, .func (.func x0.gf) #[] x0.gc, .func (.func x1.pf) #[] x1.pc, .func (.func x1.gf) #[] x1.gc] t)) fun e w' => ∃ x : FnP, e = .returned (.agg #[.func (.func x.pf) #[] x.pc, .func (.func x.gf) #[] x.gc]) ∧ Wider (W.alloc (.cells #[.func (.func x0.pf) #[] x0.pc, .func (.func x0.gf) #[] x0.gc, .func (.func x1.pf) #[] x1.pc, .func (.func x1.gf) #[] x1.gc] t)) w' ∧ RecAt (w.heap.size + 1) w' x [x0, x1] :=
  fun W t x0 x1 h => record_c _ (ps := [x0, x1]) (heap_alloc_new W _) rfl h
 have p0 := add0 p
 have B0 := Lib.hid b0
 have HH := Lib.hid (H.quiet (Wider.refl _).drew)
 clear hs b0 H
 go_enter Tryz.func139, Tryz.ntmps139
 go_upto_region 1 with (fail)
 go_region_law (first
  | (go_simp; go_at_call 162; (with_reducible refine (owhole_c _ p).mono ?_); rintro e w1 ⟨x0, rfl, g0, h0⟩; have B1 : Hid (w.heap.size < w1.heap.size) := Nat.lt_of_lt_of_le B0.out g0.2; have S0 := Lib.hid h0; have T0 := Lib.hid g0; clear h0 g0)
  | (go_simp; go_at_call 162; (with_reducible refine (owhole_c _ ⟨p.block, p.off + 1, none⟩).mono ?_); rintro e w2 ⟨x1, rfl, g1, h1⟩; have B2 : Hid (w.heap.size < w2.heap.size) := Nat.lt_of_lt_of_le B1.out g1.2; have S1 := Lib.hid h1; have T1 := Lib.hid g1; clear h1 g1)
  | (go_simp; go_at_call 161; (with_reducible refine (zr _ _ x0 x1 B2.out).mono ?_); rintro e wR ⟨xr, rfl, gR, hR⟩; have HW := (((HH.out.quiet T0.out).quiet T1.out).quiet ((Wider.refl w2).alloc _)).quiet gR; have k0 := blk_cell HW.head 0 (v := .nilFunc) rfl; have k1 := blk_cell HW.head 1 (v := .nilFunc) rfl; have f0 := blk_free HW.head 0; have f1 := blk_free HW.head 1; have SR := Lib.hid hR; have TR := Lib.hid gR; clear hR gR))
 all_goals
  have H2 := (HW.store 0 (.func (.func xr.pf) #[] xr.pc)).store 1 (.func (.func xr.gf) #[] xr.gc)
  have d0 := blk_cell H2.head 0 (v := .func (.func xr.pf) #[] xr.pc) rfl
  have d1 := blk_cell H2.head 1 (v := .func (.func xr.gf) #[] xr.gc) rfl
  have KS : ∀ b, w.heap.size < b → Keeps b wR ((wR.setCell ⟨w.heap.size, 0, none⟩ (.func (.func xr.pf) #[] xr.pc)).setCell ⟨w.heap.size, 1, none⟩ (.func (.func xr.gf) #[] xr.gc)) := fun b hb => (keeps_set wR hb).trans (keeps_set _ hb)
  clear k0 k1 f0 f1 HW
  go_wp2
  simp [bodyPost, results, Tryz.results139, go_sem, d0, d1]
  exact ⟨xr, ⟨⟨rfl, rfl⟩, rfl, rfl⟩, H2.wider, x0, x1, SR.out.on (KS _ (Nat.lt_succ_self _)) (Nat.le_succ _), S0.out.on ((((((Wider.refl w1).trans T1.out).alloc _).trans TR.out).keeps _).trans (KS _ B0.out)) (Nat.le_of_lt B0.out), S1.out.on (((((Wider.refl w2).alloc _).trans TR.out).keeps _).trans (KS _ B1.out)) (Nat.le_of_lt B1.out)⟩
theorem regs_puts {w W : World} {x : FnP} {v0 : Int} {v1 : Int} (w0 : (Lit.int .i64 v0).wf = true) (w1 : (Lit.int .i64 v1).wf = true) (hg : Wider w W) {B : Nat} (hB : W.heap[B]? = some (.cells #[.int .i64 v0, .int .i64 v1] 49 (0, 0)))
 {b0 : Nat} {x0 x1 : FnP} (hR : RecAt b0 W x [x0, x1]) (hp : NumP .i64 2147483647 (by decide) b0 W x0 (⟨B, 0, none⟩ : Addr) ∧ NumP .i64 2147483647 (by decide) b0 W x1 (⟨B, 0 + 1, none⟩ : Addr)) {T : ByteArray} {r : Nat} (hr : PutG csRegs [ValN.num v0, ValN.num v1] T r) : Puts W x T r := by
 obtain ⟨h0, h1⟩ := hp
 refine recput_c hR rfl rfl (fun k p c y e1 e2 e3 T r h => ?_) (by decide) (by decide) (by decide) hr
 match k, e1, e2, e3 with
 | 0, e1, e2, e3 =>
   simp [csRegs] at e1 e2 e3
   subst e1 e2 e3
   exact h0.part.put W (Keeps.refl _ _) _ _ (blk_cell hB 0 rfl) ⟨_, rfl, rfl, w0⟩ T r h
 | 1, e1, e2, e3 =>
   simp [csRegs] at e1 e2 e3
   subst e1 e2 e3
   exact h1.part.put W (Keeps.refl _ _) _ _ (blk_cell hB 1 rfl) ⟨_, rfl, rfl, w1⟩ T r h
 | k + 2, e1, e2, e3 => simp at e1
set_option maxHeartbeats 2000000 in
theorem putRegs_c (w : World) {v0 : Int} {v1 : Int} (w0 : (Lit.int .i64 v0).wf = true) (w1 : (Lit.int .i64 v1).wf = true) {T : ByteArray} {r : Nat} (hr : PutG csRegs [ValN.num v0, ValN.num v1] T r) :
 Calls Tryz.prog 119 #[.agg #[.int .i64 v0, .int .i64 v1]] w fun e w' => e = .returned (.tuple #[.string T, .int .i64 (r : Int)]) ∧ Wider w w' := by
 have H := (Own.nil (Wider.refl w)).blk #[.int .i64 v0, .int .i64 v1] 49
 have zs := regs_s (w.alloc (.cells #[.int .i64 v0, .int .i64 v1] 49)) ⟨w.heap.size, 0, none⟩
 have hfp := fld_put
 have HH := Lib.hid H
 clear H
 go_enter Tryz.func119, Tryz.ntmps119
 go_wp2_with (first
  | (go_at_call 139; (with_reducible refine zs.mono ?_); rintro e wA ⟨x, rfl, g1, x0, x1, hR, hp⟩; have hq := regs_puts (w0 := w0) (w1 := w1) (((Wider.refl w).alloc _).trans g1) (HH.out.quiet g1).head hR hp hr; have ent : ∀ (args : Array Value) (w : World), (callFunc x.pf args).run Tryz.prog w = .ok (.enter x.pf args) w := hq.1; have hq2 := hq.2 wA (Wider.refl _); clear hq hR hp)
  | (go_at_fn x.pf; (with_reducible refine hq2.mono ?_); rintro e wB ⟨rfl, g2⟩))
 go_ret2
 exact ⟨rfl, (((Wider.refl w).alloc _).trans g1).trans g2⟩
def RepRegs (w : World) (c : Array Value) (vs : List ValN) : Prop :=
 ∃ (v0 v1 : Int), c = #[.int .i64 v0, .int .i64 v1] ∧ vs = [ValN.num v0, ValN.num v1] ∧ (Lit.int .i64 v0).wf = true ∧ (Lit.int .i64 v1).wf = true
theorem RepRegs.on {W w : World} {c : Array Value} {vs : List ValN} (h : RepRegs W c vs) (g : Wider W w) : RepRegs w c vs := by
 obtain ⟨v0, v1, rfl, rfl, w0, w1⟩ := h
 exact ⟨v0, v1, rfl, rfl, w0, w1⟩
theorem RepRegs.size {w : World} {c : Array Value} {vs : List ValN} (h : RepRegs w c vs) : c.size = 2 := by
 obtain ⟨v0, v1, rfl, rfl, w0, w1⟩ := h
 rfl
theorem RepRegs.put {w : World} {c : Array Value} {vs : List ValN} (h : RepRegs w c vs) {T : ByteArray} {r : Nat} (hr : PutG csRegs vs T r) :
 Calls Tryz.prog 119 #[.agg c] w fun e w' => e = .returned (.tuple #[.string T, .int .i64 (r : Int)]) ∧ Wider w w' := by
 obtain ⟨v0, v1, rfl, rfl, w0, w1⟩ := h
 exact putRegs_c w (w0 := w0) (w1 := w1) hr
abbrev zM : Array Value := #[.int .u8 0, .int .u32 0, .int .i64 0, .int .i64 0, .int .i64 0, .int .i64 0, .int .i64 0, .int .u64 0, .int .u64 0, .string ⟨#[]⟩, .slice none 0 0, .int .i64 0, .int .i64 0, .int .i64 0, .int .i64 0, .int .i64 0, .int .i64 0, .int .i64 0, .slice none 0 0, .int .i64 0, .int .i64 0, .int .u8 0, .int .i64 0, .int .i64 0, .int .i64 0, .int .i64 0, .int .u8 0, .slice none 0 0, .int .i64 0, .int .i64 0, .int .i64 0, .string ⟨#[]⟩, .string ⟨#[]⟩, .int .i64 0, .int .i64 0, .int .i64 0, .slice none 0 0, .int .i64 0, .int .i64 0, .int .u64 0, .bool false, .int .i64 0, .slice none 0 0, .int .i64 0, .int .u8 0, .int .i64 0, .slice none 0 0, .int .i64 0, .int .i64 0, .int .i64 0, .int .i64 0, .int .i64 0]
theorem zeroNode (w : World) : RepNode w #[.int .i64 0, .int .i64 0, .int .i64 0, .int .i64 0, .int .i64 0, .int .i64 0, .int .i64 0, .slice none 0 0, .int .i64 0] (zeroG csNode) := ⟨0, 0, 0, 0, 0, 0, 0, 0, none, 0, 0, [], rfl, rfl, rfl, rfl, rfl, rfl, rfl, rfl, rfl, rfl, ⟨fun _ => rfl, fun a e => by cases e⟩, rfl, by decide, fun x hx => by cases hx⟩
theorem zeroField (w : World) : RepField w #[.int .i64 0, .int .u8 0, .int .i64 0, .int .i64 0, .int .i64 0] (zeroG csField) := ⟨0, 0, 0, 0, 0, rfl, rfl, rfl, rfl, rfl, rfl, rfl⟩
theorem zeroTable (w : World) : RepTable w #[.int .i64 0, .int .u8 0, .slice none 0 0, .int .i64 0, .int .i64 0] (zeroG csTable) := ⟨0, 0, 0, 0, none, 0, 0, [], rfl, rfl, rfl, rfl, rfl, rfl, ⟨fun _ => rfl, fun a e => by cases e⟩, rfl, by decide, fun x hx => by cases hx⟩
theorem zeroEntry (w : World) : RepEntry w #[.int .i64 0, .string ⟨#[]⟩, .string ⟨#[]⟩, .int .i64 0, .int .i64 0, .int .i64 0, .slice none 0 0, .int .i64 0, .int .i64 0, .int .u64 0, .bool false] (zeroG csEntry) := ⟨0, 0, 0, 0, 0, 0, 0, ⟨#[]⟩, ⟨#[]⟩, false, none, 0, 0, [], rfl, rfl, rfl, Nat.zero_le _, Nat.zero_le _, rfl, rfl, rfl, rfl, rfl, rfl, ⟨fun _ => rfl, fun a e => by cases e⟩, rfl, by decide, fun x hx => by cases hx⟩
theorem zeroBlock (w : World) : RepBlock w #[.int .i64 0, .slice none 0 0] (zeroG csBlock) := ⟨0, none, 0, 0, [], rfl, rfl, rfl, ⟨fun _ => rfl, fun a e => by cases e⟩, rfl, by decide, fun x hx => by cases hx⟩
theorem zeroGroup (w : World) : RepGroup w #[.int .i64 0, .int .u8 0, .int .i64 0, .slice none 0 0] (zeroG csGroup) := ⟨0, 0, 0, none, 0, 0, [], rfl, rfl, rfl, rfl, rfl, ⟨fun _ => rfl, fun a e => by cases e⟩, rfl, by decide, fun x hx => by cases hx⟩
theorem zeroMeter (w : World) : RepMeter w #[.int .i64 0, .int .i64 0, .int .i64 0] (zeroG csMeter) := ⟨0, 0, 0, rfl, rfl, rfl, rfl, rfl⟩
theorem zeroRegs (w : World) : RepRegs w #[.int .i64 0, .int .i64 0] (zeroG csRegs) := ⟨0, 0, rfl, rfl, rfl, rfl⟩
theorem run_storeVar_part {P : Program} (w : World) (g o : Nat) (t ty : TypeId) (old cells : Array Value) (hg : w.heap[g]? = some (.cells old t (0, 0))) (hi : (P.info? ty).map (·.size) = some cells.size)
 (ho : o + cells.size ≤ old.size) (h1 : cells.all (·.oneCell') = true) :
 (storeVar ty ⟨g, o, none⟩ (.agg cells)).run P w = .ok () (w.setRow g (old.toList.take o ++ cells.toList ++ old.toList.drop (o + cells.size)).toArray) := by
 have := run_storeCells_at (P := P) g o t cells.toList 0 old w hg (by simp; omega) (fun v hv => (Array.all_eq_true_iff_forall_mem.1 h1) v (by simpa using hv))
 cases hq : P.info? ty with
 | none => simp [hq] at hi
 | some i =>
   have hs : cells.size = i.size := by simp [hq] at hi; omega
   simp only [Nat.add_zero, Array.length_toList] at this
   simp [storeVar, sizeOf, typeInfo, hq, Value.cells, hs]
   rw [← hs]
   simpa using this
theorem wpList_store_part {P : Program} {ops : Array Oper} {rest : List Oper} {op : Oper} {a : Act} {w : World} {Q : Exit → Act → World → Prop} (hgd : op.guard = none) (ty : TypeId) (x y : Operand) (hop : op.op = .store ty x y)
 (g o : Nat) (cells : Array Value) (hx : a.eval x = .pointer (some ⟨g, o, none⟩)) (hy : a.eval y = .agg cells)
 (t : TypeId) (old : Array Value) (hg : w.heap[g]? = some (.cells old t (0, 0))) (hi : (P.info? ty).map (·.size) = some cells.size)
 (ho : o + cells.size ≤ old.size) (h1 : cells.all (·.oneCell') = true) {new : Array Value} (hn : (old.toList.take o ++ cells.toList ++ old.toList.drop (o + cells.size)).toArray = new)
 (h : wpList P ops Q rest (a.put op.dst undef) (w.setRow g new)) : wpList P ops Q (op :: rest) a w := by
 subst hn
 refine wpList_plain hgd fun _ hK => ?_
 have hh := hK _ _ h
 unfold Oper.wp execOp
 simp only [hop, hx, hy, Instr.storeAt, Instr.sureAddr, Sem.run_bind, Sem.run_pure, Result.andThen_ok, run_storeVar_part w g o t ty old cells hg hi ho h1]
 exact hh
theorem RepNode.one {w : World} {c : Array Value} {vs : List ValN} (h : RepNode w c vs) : c.all (·.oneCell') = true := by
 unfold RepNode at h
 obtain ⟨_, _, _, _, _, _, _, _, _, _, _, _, rfl, _⟩ := h
 simp [Value.oneCell']
theorem RepField.one {w : World} {c : Array Value} {vs : List ValN} (h : RepField w c vs) : c.all (·.oneCell') = true := by
 unfold RepField at h
 obtain ⟨_, _, _, _, _, rfl, _⟩ := h
 simp [Value.oneCell']
theorem RepTable.one {w : World} {c : Array Value} {vs : List ValN} (h : RepTable w c vs) : c.all (·.oneCell') = true := by
 unfold RepTable at h
 obtain ⟨_, _, _, _, _, _, _, _, rfl, _⟩ := h
 simp [Value.oneCell']
theorem RepEntry.one {w : World} {c : Array Value} {vs : List ValN} (h : RepEntry w c vs) : c.all (·.oneCell') = true := by
 unfold RepEntry at h
 obtain ⟨_, _, _, _, _, _, _, _, _, _, _, _, _, _, rfl, _⟩ := h
 simp [Value.oneCell']
theorem RepBlock.one {w : World} {c : Array Value} {vs : List ValN} (h : RepBlock w c vs) : c.all (·.oneCell') = true := by
 unfold RepBlock at h
 obtain ⟨_, _, _, _, _, rfl, _⟩ := h
 simp [Value.oneCell']
theorem RepGroup.one {w : World} {c : Array Value} {vs : List ValN} (h : RepGroup w c vs) : c.all (·.oneCell') = true := by
 unfold RepGroup at h
 obtain ⟨_, _, _, _, _, _, _, rfl, _⟩ := h
 simp [Value.oneCell']
theorem RepMeter.one {w : World} {c : Array Value} {vs : List ValN} (h : RepMeter w c vs) : c.all (·.oneCell') = true := by
 unfold RepMeter at h
 obtain ⟨_, _, _, rfl, _⟩ := h
 simp [Value.oneCell']
theorem RepRegs.one {w : World} {c : Array Value} {vs : List ValN} (h : RepRegs w c vs) : c.all (·.oneCell') = true := by
 unfold RepRegs at h
 obtain ⟨_, _, rfl, _⟩ := h
 simp [Value.oneCell']
end Go.Proofs.YtoopdhgmdjienaaGreatDoor
