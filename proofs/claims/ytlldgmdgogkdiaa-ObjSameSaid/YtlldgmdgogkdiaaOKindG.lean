/- Texts that belong together, one behind the other: OKindNode OKindField OKindTable OKindEntry OKindBlock OKindGroup OKindMeter OKindRegs. -/
import Derived.Test.YtlldgmdgogkdiaaOListArm
import Derived.Test.YtlldgmdgogkdiaaOItemG
import Derived.Test.YtlldgmdgogkdiaaOListKey
import Derived.Test.YtlldgmdgogkdiaaOListArg
import Derived.Test.YtlldgmdgogkdiaaOListInstr
import Derived.Test.YtlldgmdgogkdiaaOListBucket

/- Package obj's node: the parts that it makes, by a walk. -/
namespace Go.Proofs.Ytlldgmdgogkdiaa
set_option linter.unusedVariables false
set_option maxRecDepth 20000
open Go.ChangeShapes Go.WideShapes Go.ChangeAt Go.RowKit Go.Joins
open Go.ChangeMaps (open_string shut_string)
end Go.Proofs.Ytlldgmdgogkdiaa

/- Package obj's field: the parts that it makes, by a walk. -/
namespace Go.Proofs.Ytlldgmdgogkdiaa
set_option linter.unusedVariables false
set_option maxRecDepth 20000
open Go.ChangeShapes Go.WideShapes Go.ChangeAt Go.RowKit Go.Joins
open Go.ChangeMaps (open_string shut_string)
set_option maxHeartbeats 8000000 in
theorem field_s (w : World) (p : Addr) :
    Calls Try.prog 34 #[.pointer (some p)] w fun e w' => ∃ x : FnP, e = .returned (.agg #[.func (.func x.pf) #[] x.pc, .func (.func x.gf) #[] x.gc]) ∧ Wider w w' ∧ ∃ x0 x1 x2 x3 x4 : FnP, RecAt w.heap.size w' x [x0, x1, x2, x3, x4] ∧ NumP .i64 2147483647 (by decide) w.heap.size w' x0 p ∧ NumP .u8 255 (by decide) w.heap.size w' x1 ⟨p.block, p.off + 1, none⟩ ∧ NumP .i64 2147483647 (by decide) w.heap.size w' x2 ⟨p.block, p.off + 2, none⟩ ∧ NumP .i64 2147483647 (by decide) w.heap.size w' x3 ⟨p.block, p.off + 3, none⟩ ∧ NumP .i64 2147483647 (by decide) w.heap.size w' x4 ⟨p.block, p.off + 4, none⟩ := by
  have H := (Own.nil (Wider.refl w)).blk #[.nilFunc, .nilFunc] 82
  have hs : (w.alloc (.cells #[.nilFunc, .nilFunc] 82)).heap.size = w.heap.size + 1 := by simp
  have b0 : w.heap.size < (w.alloc (.cells #[.nilFunc, .nilFunc] 82)).drew.heap.size := by show w.heap.size < (w.alloc _).heap.size; rw [hs]; omega
  have zr : ∀ (W : World) (t : TypeId) (x0 x1 x2 x3 x4 : FnP), w.heap.size < W.heap.size → Calls Try.prog 37 #[.slice (some ⟨W.heap.size, 0, none⟩) 5 5] (W.alloc (.cells #[.func (.func x0.pf) #[] x0.pc, .func (.func x0.gf) #[] x0.gc, .func (.func x1.pf) #[] x1.pc, .func (.func x1.gf) #[] x1.gc, .func (.func x2.pf) #[] x2.pc, .func (.func x2.gf) #[] x2.gc, .func (.func x3.pf) #[] x3.pc, .func (.func x3.gf) #[] x3.gc, .func (.func x4.pf) #[] x4.pc, .func (.func x4.gf) #[] x4.gc] t)) fun e w' => ∃ x : FnP, e = .returned (.agg #[.func (.func x.pf) #[] x.pc, .func (.func x.gf) #[] x.gc]) ∧ Wider (W.alloc (.cells #[.func (.func x0.pf) #[] x0.pc, .func (.func x0.gf) #[] x0.gc, .func (.func x1.pf) #[] x1.pc, .func (.func x1.gf) #[] x1.gc, .func (.func x2.pf) #[] x2.pc, .func (.func x2.gf) #[] x2.gc, .func (.func x3.pf) #[] x3.pc, .func (.func x3.gf) #[] x3.gc, .func (.func x4.pf) #[] x4.pc, .func (.func x4.gf) #[] x4.gc] t)) w' ∧ RecAt (w.heap.size + 1) w' x [x0, x1, x2, x3, x4] :=
    fun W t x0 x1 x2 x3 x4 h => record_c _ (ps := [x0, x1, x2, x3, x4]) (heap_alloc_new W _) rfl h
  have p0 := add0 p
  have B0 := Lib.hid b0
  have HH := Lib.hid (H.quiet (Wider.refl _).drew)
  clear hs b0 H
  go_enter Try.func34, Try.ntmps34
  go_upto_region 1 with (fail)
  go_region_law (first
    | (go_simp; go_at_call 38; (with_reducible refine (owhole_c _ p).mono ?_); rintro e w1 ⟨x0, rfl, g0, h0⟩; have B1 : Hid (w.heap.size < w1.heap.size) := Nat.lt_of_lt_of_le B0.out g0.2; have S0 := Lib.hid h0; have T0 := Lib.hid g0; clear h0 g0)
    | (go_simp; go_at_call 41; (with_reducible refine (ooctet_c _ ⟨p.block, p.off + 1, none⟩).mono ?_); rintro e w2 ⟨x1, rfl, g1, h1⟩; have B2 : Hid (w.heap.size < w2.heap.size) := Nat.lt_of_lt_of_le B1.out g1.2; have S1 := Lib.hid h1; have T1 := Lib.hid g1; clear h1 g1)
    | (go_simp; go_at_call 38; (with_reducible refine (owhole_c _ ⟨p.block, p.off + 2, none⟩).mono ?_); rintro e w3 ⟨x2, rfl, g2, h2⟩; have B3 : Hid (w.heap.size < w3.heap.size) := Nat.lt_of_lt_of_le B2.out g2.2; have S2 := Lib.hid h2; have T2 := Lib.hid g2; clear h2 g2)
    | (go_simp; go_at_call 38; (with_reducible refine (owhole_c _ ⟨p.block, p.off + 3, none⟩).mono ?_); rintro e w4 ⟨x3, rfl, g3, h3⟩; have B4 : Hid (w.heap.size < w4.heap.size) := Nat.lt_of_lt_of_le B3.out g3.2; have S3 := Lib.hid h3; have T3 := Lib.hid g3; clear h3 g3)
    | (go_simp; go_at_call 38; (with_reducible refine (owhole_c _ ⟨p.block, p.off + 4, none⟩).mono ?_); rintro e w5 ⟨x4, rfl, g4, h4⟩; have B5 : Hid (w.heap.size < w5.heap.size) := Nat.lt_of_lt_of_le B4.out g4.2; have S4 := Lib.hid h4; have T4 := Lib.hid g4; clear h4 g4)
    | (go_simp; go_at_call 37; (with_reducible refine (zr _ _ x0 x1 x2 x3 x4 B5.out).mono ?_); rintro e wR ⟨xr, rfl, gR, hR⟩; have HW := ((((((HH.out.quiet T0.out).quiet T1.out).quiet T2.out).quiet T3.out).quiet T4.out).quiet ((Wider.refl w5).alloc _)).quiet gR; have k0 := blk_cell HW.head 0 (v := .nilFunc) rfl; have k1 := blk_cell HW.head 1 (v := .nilFunc) rfl; have f0 := blk_free HW.head 0; have f1 := blk_free HW.head 1; have SR := Lib.hid hR; have TR := Lib.hid gR; clear hR gR))
  all_goals
    have H2 := (HW.store 0 (.func (.func xr.pf) #[] xr.pc)).store 1 (.func (.func xr.gf) #[] xr.gc)
    have d0 := blk_cell H2.head 0 (v := .func (.func xr.pf) #[] xr.pc) rfl
    have d1 := blk_cell H2.head 1 (v := .func (.func xr.gf) #[] xr.gc) rfl
    have KS : ∀ b, w.heap.size < b → Keeps b wR ((wR.setCell ⟨w.heap.size, 0, none⟩ (.func (.func xr.pf) #[] xr.pc)).setCell ⟨w.heap.size, 1, none⟩ (.func (.func xr.gf) #[] xr.gc)) := fun b hb => (keeps_set wR hb).trans (keeps_set _ hb)
    clear k0 k1 f0 f1 HW
    go_wp2
    simp [bodyPost, results, Try.results34, go_sem, d0, d1]
    exact ⟨xr, ⟨⟨rfl, rfl⟩, rfl, rfl⟩, H2.wider, x0, x1, x2, x3, x4, SR.out.on (KS _ (Nat.lt_succ_self _)) (Nat.le_succ _), S0.out.on (((((((((Wider.refl w1).trans T1.out).trans T2.out).trans T3.out).trans T4.out).alloc _).trans TR.out).keeps _).trans (KS _ B0.out)) (Nat.le_of_lt B0.out), S1.out.on ((((((((Wider.refl w2).trans T2.out).trans T3.out).trans T4.out).alloc _).trans TR.out).keeps _).trans (KS _ B1.out)) (Nat.le_of_lt B1.out), S2.out.on (((((((Wider.refl w3).trans T3.out).trans T4.out).alloc _).trans TR.out).keeps _).trans (KS _ B2.out)) (Nat.le_of_lt B2.out), S3.out.on ((((((Wider.refl w4).trans T4.out).alloc _).trans TR.out).keeps _).trans (KS _ B3.out)) (Nat.le_of_lt B3.out), S4.out.on (((((Wider.refl w5).alloc _).trans TR.out).keeps _).trans (KS _ B4.out)) (Nat.le_of_lt B4.out)⟩
end Go.Proofs.Ytlldgmdgogkdiaa

/- Package obj's table: the parts that it makes, by a walk. -/
namespace Go.Proofs.Ytlldgmdgogkdiaa
set_option linter.unusedVariables false
set_option maxRecDepth 20000
open Go.ChangeShapes Go.WideShapes Go.ChangeAt Go.RowKit Go.Joins
open Go.ChangeMaps (open_string shut_string)
end Go.Proofs.Ytlldgmdgogkdiaa

/- Package obj's entry: the parts that it makes, by a walk. -/
namespace Go.Proofs.Ytlldgmdgogkdiaa
set_option linter.unusedVariables false
set_option maxRecDepth 20000
open Go.ChangeShapes Go.WideShapes Go.ChangeAt Go.RowKit Go.Joins
open Go.ChangeMaps (open_string shut_string)
end Go.Proofs.Ytlldgmdgogkdiaa

/- Package obj's block: the parts that it makes, by a walk. -/
namespace Go.Proofs.Ytlldgmdgogkdiaa
set_option linter.unusedVariables false
set_option maxRecDepth 20000
open Go.ChangeShapes Go.WideShapes Go.ChangeAt Go.RowKit Go.Joins
open Go.ChangeMaps (open_string shut_string)
set_option maxHeartbeats 8000000 in
theorem block_s (w : World) (p : Addr) :
    Calls Try.prog 33 #[.pointer (some p)] w fun e w' => ∃ x : FnP, e = .returned (.agg #[.func (.func x.pf) #[] x.pc, .func (.func x.gf) #[] x.gc]) ∧ Wider w w' ∧ ∃ x0 x1 : FnP, RecAt w.heap.size w' x [x0, x1] ∧ NumP .i64 2147483647 (by decide) w.heap.size w' x0 p ∧ PartV lCode (inL ksInstr) (relL 66 7 ksInstr) w.heap.size w' x1 ⟨p.block, p.off + 1, none⟩ := by
  have H := (Own.nil (Wider.refl w)).blk #[.nilFunc, .nilFunc] 82
  have hs : (w.alloc (.cells #[.nilFunc, .nilFunc] 82)).heap.size = w.heap.size + 1 := by simp
  have b0 : w.heap.size < (w.alloc (.cells #[.nilFunc, .nilFunc] 82)).drew.heap.size := by show w.heap.size < (w.alloc _).heap.size; rw [hs]; omega
  have zr : ∀ (W : World) (t : TypeId) (x0 x1 : FnP), w.heap.size < W.heap.size → Calls Try.prog 37 #[.slice (some ⟨W.heap.size, 0, none⟩) 2 2] (W.alloc (.cells #[.func (.func x0.pf) #[] x0.pc, .func (.func x0.gf) #[] x0.gc, .func (.func x1.pf) #[] x1.pc, .func (.func x1.gf) #[] x1.gc] t)) fun e w' => ∃ x : FnP, e = .returned (.agg #[.func (.func x.pf) #[] x.pc, .func (.func x.gf) #[] x.gc]) ∧ Wider (W.alloc (.cells #[.func (.func x0.pf) #[] x0.pc, .func (.func x0.gf) #[] x0.gc, .func (.func x1.pf) #[] x1.pc, .func (.func x1.gf) #[] x1.gc] t)) w' ∧ RecAt (w.heap.size + 1) w' x [x0, x1] :=
    fun W t x0 x1 h => record_c _ (ps := [x0, x1]) (heap_alloc_new W _) rfl h
  have p0 := add0 p
  have B0 := Lib.hid b0
  have HH := Lib.hid (H.quiet (Wider.refl _).drew)
  clear hs b0 H
  go_enter Try.func33, Try.ntmps33
  go_upto_region 1 with (fail)
  go_region_law (first
    | (go_simp; go_at_call 38; (with_reducible refine (owhole_c _ p).mono ?_); rintro e w1 ⟨x0, rfl, g0, h0⟩; have B1 : Hid (w.heap.size < w1.heap.size) := Nat.lt_of_lt_of_le B0.out g0.2; have S0 := Lib.hid h0; have T0 := Lib.hid g0; clear h0 g0)
    | (go_simp; go_at_call 39; (with_reducible refine (listInstr_c _ ⟨p.block, p.off + 1, none⟩).mono ?_); rintro e w2 ⟨x1, rfl, g1, h1⟩; have B2 : Hid (w.heap.size < w2.heap.size) := Nat.lt_of_lt_of_le B1.out g1.2; have S1 := Lib.hid h1; have T1 := Lib.hid g1; clear h1 g1)
    | (go_simp; go_at_call 37; (with_reducible refine (zr _ _ x0 x1 B2.out).mono ?_); rintro e wR ⟨xr, rfl, gR, hR⟩; have HW := (((HH.out.quiet T0.out).quiet T1.out).quiet ((Wider.refl w2).alloc _)).quiet gR; have k0 := blk_cell HW.head 0 (v := .nilFunc) rfl; have k1 := blk_cell HW.head 1 (v := .nilFunc) rfl; have f0 := blk_free HW.head 0; have f1 := blk_free HW.head 1; have SR := Lib.hid hR; have TR := Lib.hid gR; clear hR gR))
  all_goals
    have H2 := (HW.store 0 (.func (.func xr.pf) #[] xr.pc)).store 1 (.func (.func xr.gf) #[] xr.gc)
    have d0 := blk_cell H2.head 0 (v := .func (.func xr.pf) #[] xr.pc) rfl
    have d1 := blk_cell H2.head 1 (v := .func (.func xr.gf) #[] xr.gc) rfl
    have KS : ∀ b, w.heap.size < b → Keeps b wR ((wR.setCell ⟨w.heap.size, 0, none⟩ (.func (.func xr.pf) #[] xr.pc)).setCell ⟨w.heap.size, 1, none⟩ (.func (.func xr.gf) #[] xr.gc)) := fun b hb => (keeps_set wR hb).trans (keeps_set _ hb)
    clear k0 k1 f0 f1 HW
    go_wp2
    simp [bodyPost, results, Try.results33, go_sem, d0, d1]
    exact ⟨xr, ⟨⟨rfl, rfl⟩, rfl, rfl⟩, H2.wider, x0, x1, SR.out.on (KS _ (Nat.lt_succ_self _)) (Nat.le_succ _), S0.out.on ((((((Wider.refl w1).trans T1.out).alloc _).trans TR.out).keeps _).trans (KS _ B0.out)) (Nat.le_of_lt B0.out), S1.out.on (((((Wider.refl w2).alloc _).trans TR.out).keeps _).trans (KS _ B1.out)) (Nat.le_of_lt B1.out)⟩
end Go.Proofs.Ytlldgmdgogkdiaa

/- Package obj's group: the parts that it makes, by a walk. -/
namespace Go.Proofs.Ytlldgmdgogkdiaa
set_option linter.unusedVariables false
set_option maxRecDepth 20000
open Go.ChangeShapes Go.WideShapes Go.ChangeAt Go.RowKit Go.Joins
open Go.ChangeMaps (open_string shut_string)
end Go.Proofs.Ytlldgmdgogkdiaa

/- Package obj's meter: the parts that it makes, by a walk. -/
namespace Go.Proofs.Ytlldgmdgogkdiaa
set_option linter.unusedVariables false
set_option maxRecDepth 20000
open Go.ChangeShapes Go.WideShapes Go.ChangeAt Go.RowKit Go.Joins
open Go.ChangeMaps (open_string shut_string)
set_option maxHeartbeats 8000000 in
theorem meter_s (w : World) (p : Addr) :
    Calls Try.prog 36 #[.pointer (some p)] w fun e w' => ∃ x : FnP, e = .returned (.agg #[.func (.func x.pf) #[] x.pc, .func (.func x.gf) #[] x.gc]) ∧ Wider w w' ∧ ∃ x0 x1 x2 : FnP, RecAt w.heap.size w' x [x0, x1, x2] ∧ NumP .i64 2147483647 (by decide) w.heap.size w' x0 p ∧ NumP .i64 9223372036854775807 (by decide) w.heap.size w' x1 ⟨p.block, p.off + 1, none⟩ ∧ NumP .i64 9223372036854775807 (by decide) w.heap.size w' x2 ⟨p.block, p.off + 2, none⟩ := by
  have H := (Own.nil (Wider.refl w)).blk #[.nilFunc, .nilFunc] 82
  have hs : (w.alloc (.cells #[.nilFunc, .nilFunc] 82)).heap.size = w.heap.size + 1 := by simp
  have b0 : w.heap.size < (w.alloc (.cells #[.nilFunc, .nilFunc] 82)).drew.heap.size := by show w.heap.size < (w.alloc _).heap.size; rw [hs]; omega
  have zr : ∀ (W : World) (t : TypeId) (x0 x1 x2 : FnP), w.heap.size < W.heap.size → Calls Try.prog 37 #[.slice (some ⟨W.heap.size, 0, none⟩) 3 3] (W.alloc (.cells #[.func (.func x0.pf) #[] x0.pc, .func (.func x0.gf) #[] x0.gc, .func (.func x1.pf) #[] x1.pc, .func (.func x1.gf) #[] x1.gc, .func (.func x2.pf) #[] x2.pc, .func (.func x2.gf) #[] x2.gc] t)) fun e w' => ∃ x : FnP, e = .returned (.agg #[.func (.func x.pf) #[] x.pc, .func (.func x.gf) #[] x.gc]) ∧ Wider (W.alloc (.cells #[.func (.func x0.pf) #[] x0.pc, .func (.func x0.gf) #[] x0.gc, .func (.func x1.pf) #[] x1.pc, .func (.func x1.gf) #[] x1.gc, .func (.func x2.pf) #[] x2.pc, .func (.func x2.gf) #[] x2.gc] t)) w' ∧ RecAt (w.heap.size + 1) w' x [x0, x1, x2] :=
    fun W t x0 x1 x2 h => record_c _ (ps := [x0, x1, x2]) (heap_alloc_new W _) rfl h
  have p0 := add0 p
  have B0 := Lib.hid b0
  have HH := Lib.hid (H.quiet (Wider.refl _).drew)
  clear hs b0 H
  go_enter Try.func36, Try.ntmps36
  go_upto_region 1 with (fail)
  go_region_law (first
    | (go_simp; go_at_call 38; (with_reducible refine (owhole_c _ p).mono ?_); rintro e w1 ⟨x0, rfl, g0, h0⟩; have B1 : Hid (w.heap.size < w1.heap.size) := Nat.lt_of_lt_of_le B0.out g0.2; have S0 := Lib.hid h0; have T0 := Lib.hid g0; clear h0 g0)
    | (go_simp; go_at_call 42; (with_reducible refine (osigned_c _ ⟨p.block, p.off + 1, none⟩).mono ?_); rintro e w2 ⟨x1, rfl, g1, h1⟩; have B2 : Hid (w.heap.size < w2.heap.size) := Nat.lt_of_lt_of_le B1.out g1.2; have S1 := Lib.hid h1; have T1 := Lib.hid g1; clear h1 g1)
    | (go_simp; go_at_call 42; (with_reducible refine (osigned_c _ ⟨p.block, p.off + 2, none⟩).mono ?_); rintro e w3 ⟨x2, rfl, g2, h2⟩; have B3 : Hid (w.heap.size < w3.heap.size) := Nat.lt_of_lt_of_le B2.out g2.2; have S2 := Lib.hid h2; have T2 := Lib.hid g2; clear h2 g2)
    | (go_simp; go_at_call 37; (with_reducible refine (zr _ _ x0 x1 x2 B3.out).mono ?_); rintro e wR ⟨xr, rfl, gR, hR⟩; have HW := ((((HH.out.quiet T0.out).quiet T1.out).quiet T2.out).quiet ((Wider.refl w3).alloc _)).quiet gR; have k0 := blk_cell HW.head 0 (v := .nilFunc) rfl; have k1 := blk_cell HW.head 1 (v := .nilFunc) rfl; have f0 := blk_free HW.head 0; have f1 := blk_free HW.head 1; have SR := Lib.hid hR; have TR := Lib.hid gR; clear hR gR))
  all_goals
    have H2 := (HW.store 0 (.func (.func xr.pf) #[] xr.pc)).store 1 (.func (.func xr.gf) #[] xr.gc)
    have d0 := blk_cell H2.head 0 (v := .func (.func xr.pf) #[] xr.pc) rfl
    have d1 := blk_cell H2.head 1 (v := .func (.func xr.gf) #[] xr.gc) rfl
    have KS : ∀ b, w.heap.size < b → Keeps b wR ((wR.setCell ⟨w.heap.size, 0, none⟩ (.func (.func xr.pf) #[] xr.pc)).setCell ⟨w.heap.size, 1, none⟩ (.func (.func xr.gf) #[] xr.gc)) := fun b hb => (keeps_set wR hb).trans (keeps_set _ hb)
    clear k0 k1 f0 f1 HW
    go_wp2
    simp [bodyPost, results, Try.results36, go_sem, d0, d1]
    exact ⟨xr, ⟨⟨rfl, rfl⟩, rfl, rfl⟩, H2.wider, x0, x1, x2, SR.out.on (KS _ (Nat.lt_succ_self _)) (Nat.le_succ _), S0.out.on (((((((Wider.refl w1).trans T1.out).trans T2.out).alloc _).trans TR.out).keeps _).trans (KS _ B0.out)) (Nat.le_of_lt B0.out), S1.out.on ((((((Wider.refl w2).trans T2.out).alloc _).trans TR.out).keeps _).trans (KS _ B1.out)) (Nat.le_of_lt B1.out), S2.out.on (((((Wider.refl w3).alloc _).trans TR.out).keeps _).trans (KS _ B2.out)) (Nat.le_of_lt B2.out)⟩
end Go.Proofs.Ytlldgmdgogkdiaa

/- Package obj's regs: the parts that it makes, by a walk. -/
namespace Go.Proofs.Ytlldgmdgogkdiaa
set_option linter.unusedVariables false
set_option maxRecDepth 20000
open Go.ChangeShapes Go.WideShapes Go.ChangeAt Go.RowKit Go.Joins
open Go.ChangeMaps (open_string shut_string)
set_option maxHeartbeats 8000000 in
theorem regs_s (w : World) (p : Addr) :
    Calls Try.prog 32 #[.pointer (some p)] w fun e w' => ∃ x : FnP, e = .returned (.agg #[.func (.func x.pf) #[] x.pc, .func (.func x.gf) #[] x.gc]) ∧ Wider w w' ∧ ∃ x0 x1 : FnP, RecAt w.heap.size w' x [x0, x1] ∧ NumP .i64 2147483647 (by decide) w.heap.size w' x0 p ∧ NumP .i64 2147483647 (by decide) w.heap.size w' x1 ⟨p.block, p.off + 1, none⟩ := by
  have H := (Own.nil (Wider.refl w)).blk #[.nilFunc, .nilFunc] 82
  have hs : (w.alloc (.cells #[.nilFunc, .nilFunc] 82)).heap.size = w.heap.size + 1 := by simp
  have b0 : w.heap.size < (w.alloc (.cells #[.nilFunc, .nilFunc] 82)).drew.heap.size := by show w.heap.size < (w.alloc _).heap.size; rw [hs]; omega
  have zr : ∀ (W : World) (t : TypeId) (x0 x1 : FnP), w.heap.size < W.heap.size → Calls Try.prog 37 #[.slice (some ⟨W.heap.size, 0, none⟩) 2 2] (W.alloc (.cells #[.func (.func x0.pf) #[] x0.pc, .func (.func x0.gf) #[] x0.gc, .func (.func x1.pf) #[] x1.pc, .func (.func x1.gf) #[] x1.gc] t)) fun e w' => ∃ x : FnP, e = .returned (.agg #[.func (.func x.pf) #[] x.pc, .func (.func x.gf) #[] x.gc]) ∧ Wider (W.alloc (.cells #[.func (.func x0.pf) #[] x0.pc, .func (.func x0.gf) #[] x0.gc, .func (.func x1.pf) #[] x1.pc, .func (.func x1.gf) #[] x1.gc] t)) w' ∧ RecAt (w.heap.size + 1) w' x [x0, x1] :=
    fun W t x0 x1 h => record_c _ (ps := [x0, x1]) (heap_alloc_new W _) rfl h
  have p0 := add0 p
  have B0 := Lib.hid b0
  have HH := Lib.hid (H.quiet (Wider.refl _).drew)
  clear hs b0 H
  go_enter Try.func32, Try.ntmps32
  go_upto_region 1 with (fail)
  go_region_law (first
    | (go_simp; go_at_call 38; (with_reducible refine (owhole_c _ p).mono ?_); rintro e w1 ⟨x0, rfl, g0, h0⟩; have B1 : Hid (w.heap.size < w1.heap.size) := Nat.lt_of_lt_of_le B0.out g0.2; have S0 := Lib.hid h0; have T0 := Lib.hid g0; clear h0 g0)
    | (go_simp; go_at_call 38; (with_reducible refine (owhole_c _ ⟨p.block, p.off + 1, none⟩).mono ?_); rintro e w2 ⟨x1, rfl, g1, h1⟩; have B2 : Hid (w.heap.size < w2.heap.size) := Nat.lt_of_lt_of_le B1.out g1.2; have S1 := Lib.hid h1; have T1 := Lib.hid g1; clear h1 g1)
    | (go_simp; go_at_call 37; (with_reducible refine (zr _ _ x0 x1 B2.out).mono ?_); rintro e wR ⟨xr, rfl, gR, hR⟩; have HW := (((HH.out.quiet T0.out).quiet T1.out).quiet ((Wider.refl w2).alloc _)).quiet gR; have k0 := blk_cell HW.head 0 (v := .nilFunc) rfl; have k1 := blk_cell HW.head 1 (v := .nilFunc) rfl; have f0 := blk_free HW.head 0; have f1 := blk_free HW.head 1; have SR := Lib.hid hR; have TR := Lib.hid gR; clear hR gR))
  all_goals
    have H2 := (HW.store 0 (.func (.func xr.pf) #[] xr.pc)).store 1 (.func (.func xr.gf) #[] xr.gc)
    have d0 := blk_cell H2.head 0 (v := .func (.func xr.pf) #[] xr.pc) rfl
    have d1 := blk_cell H2.head 1 (v := .func (.func xr.gf) #[] xr.gc) rfl
    have KS : ∀ b, w.heap.size < b → Keeps b wR ((wR.setCell ⟨w.heap.size, 0, none⟩ (.func (.func xr.pf) #[] xr.pc)).setCell ⟨w.heap.size, 1, none⟩ (.func (.func xr.gf) #[] xr.gc)) := fun b hb => (keeps_set wR hb).trans (keeps_set _ hb)
    clear k0 k1 f0 f1 HW
    go_wp2
    simp [bodyPost, results, Try.results32, go_sem, d0, d1]
    exact ⟨xr, ⟨⟨rfl, rfl⟩, rfl, rfl⟩, H2.wider, x0, x1, SR.out.on (KS _ (Nat.lt_succ_self _)) (Nat.le_succ _), S0.out.on ((((((Wider.refl w1).trans T1.out).alloc _).trans TR.out).keeps _).trans (KS _ B0.out)) (Nat.le_of_lt B0.out), S1.out.on (((((Wider.refl w2).alloc _).trans TR.out).keeps _).trans (KS _ B1.out)) (Nat.le_of_lt B1.out)⟩
end Go.Proofs.Ytlldgmdgogkdiaa
