/- OKindEntry OTopEntry ORdEntry ORepEntry -/
import Derived.Test.YtoopdhgmdjienaaGreatDoorPkW18
import Derived.Test.YtoopdhgmdjienaaGreatDoorPkW15
import Derived.Test.YtoopdhgmdjienaaGreatDoorPkW16
namespace Go.Proofs.YtoopdhgmdjienaaGreatDoor
set_option linter.unusedVariables false
set_option maxRecDepth 20000
open Go.ChangeShapes Go.WideShapes Go.ChangeAt Go.RowKit Go.Joins
open Go.ChangeMaps (open_string shut_string)
set_option maxHeartbeats 8000000 in
theorem entry_s (w : World) (p : Addr) :
 Calls Tryz.prog 131 #[.pointer (some p)] w fun e w' => ∃ x : FnP, e = .returned (.agg #[.func (.func x.pf) #[] x.pc, .func (.func x.gf) #[] x.gc]) ∧ Wider w w' ∧ ∃ x0 x1 x2 x3 x4 x5 x6 x7 x8 x9 x10 : FnP, RecAt w.heap.size w' x [x0, x1, x2, x3, x4, x5, x6, x7, x8, x9, x10] ∧ NumP .i64 2147483647 (by decide) w.heap.size w' x0 p ∧ PartV tK inT relT w.heap.size w' x1 ⟨p.block, p.off + 1, none⟩ ∧ PartV tK inT relT w.heap.size w' x2 ⟨p.block, p.off + 2, none⟩ ∧ NumP .i64 2147483647 (by decide) w.heap.size w' x3 ⟨p.block, p.off + 3, none⟩ ∧ NumP .i64 2147483647 (by decide) w.heap.size w' x4 ⟨p.block, p.off + 4, none⟩ ∧ NumP .i64 2147483647 (by decide) w.heap.size w' x5 ⟨p.block, p.off + 5, none⟩ ∧ PartV lArgs (inL ksArg) (relL 28 1 ksArg) w.heap.size w' x6 ⟨p.block, p.off + 6, none⟩ ∧ NumP .i64 9223372036854775807 (by decide) w.heap.size w' x7 ⟨p.block, p.off + 7, none⟩ ∧ NumP .i64 9223372036854775807 (by decide) w.heap.size w' x8 ⟨p.block, p.off + 8, none⟩ ∧ NumP .u64 18446744073709551615 (by decide) w.heap.size w' x9 ⟨p.block, p.off + 9, none⟩ ∧ PartV nT inB relB w.heap.size w' x10 ⟨p.block, p.off + 10, none⟩ := by
 have H := (Own.nil (Wider.refl w)).blk #[.nilFunc, .nilFunc] 200
 have hs : (w.alloc (.cells #[.nilFunc, .nilFunc] 200)).heap.size = w.heap.size + 1 := by simp
 have b0 : w.heap.size < (w.alloc (.cells #[.nilFunc, .nilFunc] 200)).drew.heap.size := by show w.heap.size < (w.alloc _).heap.size; rw [hs]; omega
 have zr : ∀ (W : World) (t : TypeId) (x0 x1 x2 x3 x4 x5 x6 x7 x8 x9 x10 : FnP), w.heap.size < W.heap.size → Calls Tryz.prog 161 #[.slice (some ⟨W.heap.size, 0, none⟩) 11 11] (W.alloc (.cells #[.func (.func x0.pf) #[] x0.pc, .func (.func x0.gf) #[] x0.gc, .func (.func x1.pf) #[] x1.pc, .func (.func x1.gf) #[] x1.gc, .func (.func x2.pf) #[] x2.pc, .func (.func x2.gf) #[] x2.gc, .func (.func x3.pf) #[] x3.pc, .func (.func x3.gf) #[] x3.gc, .func (.func x4.pf) #[] x4.pc, .func (.func x4.gf) #[] x4.gc, .func (.func x5.pf) #[] x5.pc, .func (.func x5.gf) #[] x5.gc, .func (.func x6.pf) #[] x6.pc, .func (.func x6.gf) #[] x6.gc, .func (.func x7.pf) #[] x7.pc, .func (.func x7.gf) #[] x7.gc, .func (.func x8.pf) #[] x8.pc, .func (.func x8.gf) #[] x8.gc, .func (.func x9.pf) #[] x9.pc, .func (.func x9.gf) #[] x9.gc, .func (.func x10.pf) #[] x10.pc, .func (.func x10.gf) #[] x10.gc] t)) fun e w' => ∃ x : FnP, e = .returned (.agg #[.func (.func x.pf) #[] x.pc, .func (.func x.gf) #[] x.gc]) ∧ Wider (W.alloc (.cells #[.func (.func x0.pf) #[] x0.pc, .func (.func x0.gf) #[] x0.gc, .func (.func x1.pf) #[] x1.pc, .func (.func x1.gf) #[] x1.gc, .func (.func x2.pf) #[] x2.pc, .func (.func x2.gf) #[] x2.gc, .func (.func x3.pf) #[] x3.pc, .func (.func x3.gf) #[] x3.gc, .func (.func x4.pf) #[] x4.pc, .func (.func x4.gf) #[] x4.gc, .func (.func x5.pf) #[] x5.pc, .func (.func x5.gf) #[] x5.gc, .func (.func x6.pf) #[] x6.pc, .func (.func x6.gf) #[] x6.gc, .func (.func x7.pf) #[] x7.pc, .func (.func x7.gf) #[] x7.gc, .func (.func x8.pf) #[] x8.pc, .func (.func x8.gf) #[] x8.gc, .func (.func x9.pf) #[] x9.pc, .func (.func x9.gf) #[] x9.gc, .func (.func x10.pf) #[] x10.pc, .func (.func x10.gf) #[] x10.gc] t)) w' ∧ RecAt (w.heap.size + 1) w' x [x0, x1, x2, x3, x4, x5, x6, x7, x8, x9, x10] :=
  fun W t x0 x1 x2 x3 x4 x5 x6 x7 x8 x9 x10 h => record_c _ (ps := [x0, x1, x2, x3, x4, x5, x6, x7, x8, x9, x10]) (heap_alloc_new W _) rfl h
 have p0 := add0 p
 have B0 := Lib.hid b0
 have HH := Lib.hid (H.quiet (Wider.refl _).drew)
 clear hs b0 H
 go_enter Tryz.func131, Tryz.ntmps131
 go_upto_region 1 with (fail)
 go_region_law (first
  | (go_simp; go_at_call 162; (with_reducible refine (owhole_c _ p).mono ?_); rintro e w1 ⟨x0, rfl, g0, h0⟩; have B1 : Hid (w.heap.size < w1.heap.size) := Nat.lt_of_lt_of_le B0.out g0.2; have S0 := Lib.hid h0; have T0 := Lib.hid g0; clear h0 g0)
  | (go_simp; go_at_call 167; (with_reducible refine (text_c _ ⟨p.block, p.off + 1, none⟩ 32 32 rfl).mono ?_); rintro e w2 ⟨x1, rfl, g1, h1⟩; have B2 : Hid (w.heap.size < w2.heap.size) := Nat.lt_of_lt_of_le B1.out g1.2; have S1 := Lib.hid h1; have T1 := Lib.hid g1; clear h1 g1)
  | (go_simp; go_at_call 167; (with_reducible refine (text_c _ ⟨p.block, p.off + 2, none⟩ 32 32 rfl).mono ?_); rintro e w3 ⟨x2, rfl, g2, h2⟩; have B3 : Hid (w.heap.size < w3.heap.size) := Nat.lt_of_lt_of_le B2.out g2.2; have S2 := Lib.hid h2; have T2 := Lib.hid g2; clear h2 g2)
  | (go_simp; go_at_call 162; (with_reducible refine (owhole_c _ ⟨p.block, p.off + 3, none⟩).mono ?_); rintro e w4 ⟨x3, rfl, g3, h3⟩; have B4 : Hid (w.heap.size < w4.heap.size) := Nat.lt_of_lt_of_le B3.out g3.2; have S3 := Lib.hid h3; have T3 := Lib.hid g3; clear h3 g3)
  | (go_simp; go_at_call 162; (with_reducible refine (owhole_c _ ⟨p.block, p.off + 4, none⟩).mono ?_); rintro e w5 ⟨x4, rfl, g4, h4⟩; have B5 : Hid (w.heap.size < w5.heap.size) := Nat.lt_of_lt_of_le B4.out g4.2; have S4 := Lib.hid h4; have T4 := Lib.hid g4; clear h4 g4)
  | (go_simp; go_at_call 162; (with_reducible refine (owhole_c _ ⟨p.block, p.off + 5, none⟩).mono ?_); rintro e w6 ⟨x5, rfl, g5, h5⟩; have B6 : Hid (w.heap.size < w6.heap.size) := Nat.lt_of_lt_of_le B5.out g5.2; have S5 := Lib.hid h5; have T5 := Lib.hid g5; clear h5 g5)
  | (go_simp; go_at_call 168; (with_reducible refine (listArg_c _ ⟨p.block, p.off + 6, none⟩).mono ?_); rintro e w7 ⟨x6, rfl, g6, h6⟩; have B7 : Hid (w.heap.size < w7.heap.size) := Nat.lt_of_lt_of_le B6.out g6.2; have S6 := Lib.hid h6; have T6 := Lib.hid g6; clear h6 g6)
  | (go_simp; go_at_call 170; (with_reducible refine (osigned_c _ ⟨p.block, p.off + 7, none⟩).mono ?_); rintro e w8 ⟨x7, rfl, g7, h7⟩; have B8 : Hid (w.heap.size < w8.heap.size) := Nat.lt_of_lt_of_le B7.out g7.2; have S7 := Lib.hid h7; have T7 := Lib.hid g7; clear h7 g7)
  | (go_simp; go_at_call 170; (with_reducible refine (osigned_c _ ⟨p.block, p.off + 8, none⟩).mono ?_); rintro e w9 ⟨x8, rfl, g8, h8⟩; have B9 : Hid (w.heap.size < w9.heap.size) := Nat.lt_of_lt_of_le B8.out g8.2; have S8 := Lib.hid h8; have T8 := Lib.hid g8; clear h8 g8)
  | (go_simp; go_at_call 169; (with_reducible refine (olong_c _ ⟨p.block, p.off + 9, none⟩).mono ?_); rintro e w10 ⟨x9, rfl, g9, h9⟩; have B10 : Hid (w.heap.size < w10.heap.size) := Nat.lt_of_lt_of_le B9.out g9.2; have S9 := Lib.hid h9; have T9 := Lib.hid g9; clear h9 g9)
  | (go_simp; go_at_call 171; (with_reducible refine (truth_c _ ⟨p.block, p.off + 10, none⟩).mono ?_); rintro e w11 ⟨x10, rfl, g10, h10⟩; have B11 : Hid (w.heap.size < w11.heap.size) := Nat.lt_of_lt_of_le B10.out g10.2; have S10 := Lib.hid h10; have T10 := Lib.hid g10; clear h10 g10)
  | (go_simp; go_at_call 161; (with_reducible refine (zr _ _ x0 x1 x2 x3 x4 x5 x6 x7 x8 x9 x10 B11.out).mono ?_); rintro e wR ⟨xr, rfl, gR, hR⟩; have HW := ((((((((((((HH.out.quiet T0.out).quiet T1.out).quiet T2.out).quiet T3.out).quiet T4.out).quiet T5.out).quiet T6.out).quiet T7.out).quiet T8.out).quiet T9.out).quiet T10.out).quiet ((Wider.refl w11).alloc _)).quiet gR; have k0 := blk_cell HW.head 0 (v := .nilFunc) rfl; have k1 := blk_cell HW.head 1 (v := .nilFunc) rfl; have f0 := blk_free HW.head 0; have f1 := blk_free HW.head 1; have SR := Lib.hid hR; have TR := Lib.hid gR; clear hR gR))
 all_goals
  have H2 := (HW.store 0 (.func (.func xr.pf) #[] xr.pc)).store 1 (.func (.func xr.gf) #[] xr.gc)
  have d0 := blk_cell H2.head 0 (v := .func (.func xr.pf) #[] xr.pc) rfl
  have d1 := blk_cell H2.head 1 (v := .func (.func xr.gf) #[] xr.gc) rfl
  have KS : ∀ b, w.heap.size < b → Keeps b wR ((wR.setCell ⟨w.heap.size, 0, none⟩ (.func (.func xr.pf) #[] xr.pc)).setCell ⟨w.heap.size, 1, none⟩ (.func (.func xr.gf) #[] xr.gc)) := fun b hb => (keeps_set wR hb).trans (keeps_set _ hb)
  clear k0 k1 f0 f1 HW
  go_wp2
  simp [bodyPost, results, Tryz.results131, go_sem, d0, d1]
  exact ⟨xr, ⟨⟨rfl, rfl⟩, rfl, rfl⟩, H2.wider, x0, x1, x2, x3, x4, x5, x6, x7, x8, x9, x10, SR.out.on (KS _ (Nat.lt_succ_self _)) (Nat.le_succ _), S0.out.on (((((((((((((((Wider.refl w1).trans T1.out).trans T2.out).trans T3.out).trans T4.out).trans T5.out).trans T6.out).trans T7.out).trans T8.out).trans T9.out).trans T10.out).alloc _).trans TR.out).keeps _).trans (KS _ B0.out)) (Nat.le_of_lt B0.out), S1.out.on ((((((((((((((Wider.refl w2).trans T2.out).trans T3.out).trans T4.out).trans T5.out).trans T6.out).trans T7.out).trans T8.out).trans T9.out).trans T10.out).alloc _).trans TR.out).keeps _).trans (KS _ B1.out)) (Nat.le_of_lt B1.out), S2.out.on (((((((((((((Wider.refl w3).trans T3.out).trans T4.out).trans T5.out).trans T6.out).trans T7.out).trans T8.out).trans T9.out).trans T10.out).alloc _).trans TR.out).keeps _).trans (KS _ B2.out)) (Nat.le_of_lt B2.out), S3.out.on ((((((((((((Wider.refl w4).trans T4.out).trans T5.out).trans T6.out).trans T7.out).trans T8.out).trans T9.out).trans T10.out).alloc _).trans TR.out).keeps _).trans (KS _ B3.out)) (Nat.le_of_lt B3.out), S4.out.on (((((((((((Wider.refl w5).trans T5.out).trans T6.out).trans T7.out).trans T8.out).trans T9.out).trans T10.out).alloc _).trans TR.out).keeps _).trans (KS _ B4.out)) (Nat.le_of_lt B4.out), S5.out.on ((((((((((Wider.refl w6).trans T6.out).trans T7.out).trans T8.out).trans T9.out).trans T10.out).alloc _).trans TR.out).keeps _).trans (KS _ B5.out)) (Nat.le_of_lt B5.out), S6.out.on (((((((((Wider.refl w7).trans T7.out).trans T8.out).trans T9.out).trans T10.out).alloc _).trans TR.out).keeps _).trans (KS _ B6.out)) (Nat.le_of_lt B6.out), S7.out.on ((((((((Wider.refl w8).trans T8.out).trans T9.out).trans T10.out).alloc _).trans TR.out).keeps _).trans (KS _ B7.out)) (Nat.le_of_lt B7.out), S8.out.on (((((((Wider.refl w9).trans T9.out).trans T10.out).alloc _).trans TR.out).keeps _).trans (KS _ B8.out)) (Nat.le_of_lt B8.out), S9.out.on ((((((Wider.refl w10).trans T10.out).alloc _).trans TR.out).keeps _).trans (KS _ B9.out)) (Nat.le_of_lt B9.out), S10.out.on (((((Wider.refl w11).alloc _).trans TR.out).keeps _).trans (KS _ B10.out)) (Nat.le_of_lt B10.out)⟩
theorem entry_puts {w W : World} {x : FnP} {v0 : Int} {v1 : ByteArray} {v2 : ByteArray} {v3 : Int} {v4 : Int} {v5 : Int} {v7 : Int} {v8 : Int} {v9 : Int} {v10 : Bool} {A : Option Addr} {n cap : Nat} {L : List (List Int)} (w0 : (Lit.int .i64 v0).wf = true) (w1 : v1.size ≤ maxLen) (w2 : v2.size ≤ maxLen) (w3 : (Lit.int .i64 v3).wf = true) (w4 : (Lit.int .i64 v4).wf = true) (w5 : (Lit.int .i64 v5).wf = true) (w7 : (Lit.int .i64 v7).wf = true) (w8 : (Lit.int .i64 v8).wf = true) (w9 : (Lit.int .u64 v9).wf = true) (hA : RowAt w A 1 (rowsK ksArg L)) (hn : L.length = n) (hn9 : n < 1000000) (hL : ∀ x ∈ L, wfK ksArg x) (hg : Wider w W) {B : Nat} (hB : W.heap[B]? = some (.cells #[.int .i64 v0, .string v1, .string v2, .int .i64 v3, .int .i64 v4, .int .i64 v5, .slice A n cap, .int .i64 v7, .int .i64 v8, .int .u64 v9, .bool v10] 39 (0, 0)))
 {b0 : Nat} {x0 x1 x2 x3 x4 x5 x6 x7 x8 x9 x10 : FnP} (hR : RecAt b0 W x [x0, x1, x2, x3, x4, x5, x6, x7, x8, x9, x10]) (hp : NumP .i64 2147483647 (by decide) b0 W x0 (⟨B, 0, none⟩ : Addr) ∧ PartV tK inT relT b0 W x1 (⟨B, 0 + 1, none⟩ : Addr) ∧ PartV tK inT relT b0 W x2 (⟨B, 0 + 2, none⟩ : Addr) ∧ NumP .i64 2147483647 (by decide) b0 W x3 (⟨B, 0 + 3, none⟩ : Addr) ∧ NumP .i64 2147483647 (by decide) b0 W x4 (⟨B, 0 + 4, none⟩ : Addr) ∧ NumP .i64 2147483647 (by decide) b0 W x5 (⟨B, 0 + 5, none⟩ : Addr) ∧ PartV lArgs (inL ksArg) (relL 28 1 ksArg) b0 W x6 (⟨B, 0 + 6, none⟩ : Addr) ∧ NumP .i64 9223372036854775807 (by decide) b0 W x7 (⟨B, 0 + 7, none⟩ : Addr) ∧ NumP .i64 9223372036854775807 (by decide) b0 W x8 (⟨B, 0 + 8, none⟩ : Addr) ∧ NumP .u64 18446744073709551615 (by decide) b0 W x9 (⟨B, 0 + 9, none⟩ : Addr) ∧ PartV nT inB relB b0 W x10 (⟨B, 0 + 10, none⟩ : Addr)) {T : ByteArray} {r : Nat} (hr : PutG csEntry [ValN.num v0, ValN.txt v1, ValN.txt v2, ValN.num v3, ValN.num v4, ValN.num v5, ValN.lst L, ValN.num v7, ValN.num v8, ValN.num v9, ValN.num (if v10 = true then 1 else 0)] T r) : Puts W x T r := by
 obtain ⟨h0, h1, h2, h3, h4, h5, h6, h7, h8, h9, h10⟩ := hp
 refine recput_c hR rfl rfl (fun k p c y e1 e2 e3 T r h => ?_) (by decide) (by decide) (by decide) hr
 match k, e1, e2, e3 with
 | 0, e1, e2, e3 =>
   simp [csEntry] at e1 e2 e3
   subst e1 e2 e3
   exact h0.part.put W (Keeps.refl _ _) _ _ (blk_cell hB 0 rfl) ⟨_, rfl, rfl, w0⟩ T r h
 | 1, e1, e2, e3 =>
   simp [csEntry] at e1 e2 e3
   subst e1 e2 e3
   exact h1.put W (Keeps.refl _ _) _ _ (blk_cell hB 1 rfl) ⟨_, rfl, rfl, w1⟩ T r h
 | 2, e1, e2, e3 =>
   simp [csEntry] at e1 e2 e3
   subst e1 e2 e3
   exact h2.put W (Keeps.refl _ _) _ _ (blk_cell hB 2 rfl) ⟨_, rfl, rfl, w2⟩ T r h
 | 3, e1, e2, e3 =>
   simp [csEntry] at e1 e2 e3
   subst e1 e2 e3
   exact h3.part.put W (Keeps.refl _ _) _ _ (blk_cell hB 3 rfl) ⟨_, rfl, rfl, w3⟩ T r h
 | 4, e1, e2, e3 =>
   simp [csEntry] at e1 e2 e3
   subst e1 e2 e3
   exact h4.part.put W (Keeps.refl _ _) _ _ (blk_cell hB 4 rfl) ⟨_, rfl, rfl, w4⟩ T r h
 | 5, e1, e2, e3 =>
   simp [csEntry] at e1 e2 e3
   subst e1 e2 e3
   exact h5.part.put W (Keeps.refl _ _) _ _ (blk_cell hB 5 rfl) ⟨_, rfl, rfl, w5⟩ T r h
 | 6, e1, e2, e3 =>
   simp [csEntry] at e1 e2 e3
   subst e1 e2 e3
   exact h6.put W (Keeps.refl _ _) _ _ (blk_cell hB 6 rfl) ⟨A, n, cap, L, rfl, rfl, hn, hn9, hA.on hg, hL⟩ T r h
 | 7, e1, e2, e3 =>
   simp [csEntry] at e1 e2 e3
   subst e1 e2 e3
   exact h7.part.put W (Keeps.refl _ _) _ _ (blk_cell hB 7 rfl) ⟨_, rfl, rfl, w7⟩ T r h
 | 8, e1, e2, e3 =>
   simp [csEntry] at e1 e2 e3
   subst e1 e2 e3
   exact h8.part.put W (Keeps.refl _ _) _ _ (blk_cell hB 8 rfl) ⟨_, rfl, rfl, w8⟩ T r h
 | 9, e1, e2, e3 =>
   simp [csEntry] at e1 e2 e3
   subst e1 e2 e3
   exact h9.part.put W (Keeps.refl _ _) _ _ (blk_cell hB 9 rfl) ⟨_, rfl, rfl, w9⟩ T r h
 | 10, e1, e2, e3 =>
   simp [csEntry] at e1 e2 e3
   subst e1 e2 e3
   exact h10.put W (Keeps.refl _ _) _ _ (blk_cell hB 10 rfl) ⟨_, rfl, rfl⟩ T r h
 | k + 11, e1, e2, e3 => simp at e1
set_option maxHeartbeats 2000000 in
theorem putEntry_c (w : World) {v0 : Int} {v1 : ByteArray} {v2 : ByteArray} {v3 : Int} {v4 : Int} {v5 : Int} {v7 : Int} {v8 : Int} {v9 : Int} {v10 : Bool} {A : Option Addr} {n cap : Nat} {L : List (List Int)} (w0 : (Lit.int .i64 v0).wf = true) (w1 : v1.size ≤ maxLen) (w2 : v2.size ≤ maxLen) (w3 : (Lit.int .i64 v3).wf = true) (w4 : (Lit.int .i64 v4).wf = true) (w5 : (Lit.int .i64 v5).wf = true) (w7 : (Lit.int .i64 v7).wf = true) (w8 : (Lit.int .i64 v8).wf = true) (w9 : (Lit.int .u64 v9).wf = true) (hA : RowAt w A 1 (rowsK ksArg L)) (hn : L.length = n) (hn9 : n < 1000000) (hL : ∀ x ∈ L, wfK ksArg x) {T : ByteArray} {r : Nat} (hr : PutG csEntry [ValN.num v0, ValN.txt v1, ValN.txt v2, ValN.num v3, ValN.num v4, ValN.num v5, ValN.lst L, ValN.num v7, ValN.num v8, ValN.num v9, ValN.num (if v10 = true then 1 else 0)] T r) :
 Calls Tryz.prog 115 #[.agg #[.int .i64 v0, .string v1, .string v2, .int .i64 v3, .int .i64 v4, .int .i64 v5, .slice A n cap, .int .i64 v7, .int .i64 v8, .int .u64 v9, .bool v10]] w fun e w' => e = .returned (.tuple #[.string T, .int .i64 (r : Int)]) ∧ Wider w w' := by
 have H := (Own.nil (Wider.refl w)).blk #[.int .i64 v0, .string v1, .string v2, .int .i64 v3, .int .i64 v4, .int .i64 v5, .slice A n cap, .int .i64 v7, .int .i64 v8, .int .u64 v9, .bool v10] 39
 have zs := entry_s (w.alloc (.cells #[.int .i64 v0, .string v1, .string v2, .int .i64 v3, .int .i64 v4, .int .i64 v5, .slice A n cap, .int .i64 v7, .int .i64 v8, .int .u64 v9, .bool v10] 39)) ⟨w.heap.size, 0, none⟩
 have hfp := fld_put
 have HH := Lib.hid H
 clear H
 go_enter Tryz.func115, Tryz.ntmps115
 go_wp2_with (first
  | (go_at_call 131; (with_reducible refine zs.mono ?_); rintro e wA ⟨x, rfl, g1, x0, x1, x2, x3, x4, x5, x6, x7, x8, x9, x10, hR, hp⟩; have hq := entry_puts (w0 := w0) (w1 := w1) (w2 := w2) (w3 := w3) (w4 := w4) (w5 := w5) (w7 := w7) (w8 := w8) (w9 := w9) (hA := hA) (hn := hn) (hn9 := hn9) (hL := hL) (((Wider.refl w).alloc _).trans g1) (HH.out.quiet g1).head hR hp hr; have ent : ∀ (args : Array Value) (w : World), (callFunc x.pf args).run Tryz.prog w = .ok (.enter x.pf args) w := hq.1; have hq2 := hq.2 wA (Wider.refl _); clear hq hR hp)
  | (go_at_fn x.pf; (with_reducible refine hq2.mono ?_); rintro e wB ⟨rfl, g2⟩))
 go_ret2
 exact ⟨rfl, (((Wider.refl w).alloc _).trans g1).trans g2⟩
def RepEntry (w : World) (c : Array Value) (vs : List ValN) : Prop :=
 ∃ (v0 v3 v4 v5 v7 v8 v9 : Int) (v1 v2 : ByteArray) (v10 : Bool) (A : Option Addr) (n cap : Nat) (L : List (List Int)), c = #[.int .i64 v0, .string v1, .string v2, .int .i64 v3, .int .i64 v4, .int .i64 v5, .slice A n cap, .int .i64 v7, .int .i64 v8, .int .u64 v9, .bool v10] ∧ vs = [ValN.num v0, ValN.txt v1, ValN.txt v2, ValN.num v3, ValN.num v4, ValN.num v5, ValN.lst L, ValN.num v7, ValN.num v8, ValN.num v9, ValN.num (if v10 = true then 1 else 0)] ∧ (Lit.int .i64 v0).wf = true ∧ v1.size ≤ maxLen ∧ v2.size ≤ maxLen ∧ (Lit.int .i64 v3).wf = true ∧ (Lit.int .i64 v4).wf = true ∧ (Lit.int .i64 v5).wf = true ∧ (Lit.int .i64 v7).wf = true ∧ (Lit.int .i64 v8).wf = true ∧ (Lit.int .u64 v9).wf = true ∧ RowAt w A 1 (rowsK ksArg L) ∧ L.length = n ∧ n < 1000000 ∧ ∀ x ∈ L, wfK ksArg x
theorem RepEntry.on {W w : World} {c : Array Value} {vs : List ValN} (h : RepEntry W c vs) (g : Wider W w) : RepEntry w c vs := by
 obtain ⟨v0, v3, v4, v5, v7, v8, v9, v1, v2, v10, A, n, cap, L, rfl, rfl, w0, w1, w2, w3, w4, w5, w7, w8, w9, hA, hn, hn9, hL⟩ := h
 exact ⟨v0, v3, v4, v5, v7, v8, v9, v1, v2, v10, A, n, cap, L, rfl, rfl, w0, w1, w2, w3, w4, w5, w7, w8, w9, hA.on g, hn, hn9, hL⟩
theorem RepEntry.size {w : World} {c : Array Value} {vs : List ValN} (h : RepEntry w c vs) : c.size = 11 := by
 obtain ⟨v0, v3, v4, v5, v7, v8, v9, v1, v2, v10, A, n, cap, L, rfl, rfl, w0, w1, w2, w3, w4, w5, w7, w8, w9, hA, hn, hn9, hL⟩ := h
 rfl
theorem RepEntry.put {w : World} {c : Array Value} {vs : List ValN} (h : RepEntry w c vs) {T : ByteArray} {r : Nat} (hr : PutG csEntry vs T r) :
 Calls Tryz.prog 115 #[.agg c] w fun e w' => e = .returned (.tuple #[.string T, .int .i64 (r : Int)]) ∧ Wider w w' := by
 obtain ⟨v0, v3, v4, v5, v7, v8, v9, v1, v2, v10, A, n, cap, L, rfl, rfl, w0, w1, w2, w3, w4, w5, w7, w8, w9, hA, hn, hn9, hL⟩ := h
 exact putEntry_c w (w0 := w0) (w1 := w1) (w2 := w2) (w3 := w3) (w4 := w4) (w5 := w5) (w7 := w7) (w8 := w8) (w9 := w9) (hA := hA) (hn := hn) (hn9 := hn9) (hL := hL) hr
end Go.Proofs.YtoopdhgmdjienaaGreatDoor
