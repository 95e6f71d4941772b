/- OCRs -/
import Derived.Test.YtoopdhgmdjienaaGreatDoorPkW44
import Derived.Test.YtoopdhgmdjienaaGreatDoorPkW38
import Derived.Test.YtoopdhgmdjienaaGreatDoorPkW39
import Derived.Test.YtoopdhgmdjienaaGreatDoorPkW45
import Derived.Test.YtoopdhgmdjienaaGreatDoorPkW40
namespace Go.Proofs.YtoopdhgmdjienaaGreatDoor
set_option linter.unusedVariables false
set_option maxRecDepth 20000
open Go.ChangeShapes Go.WideShapes Go.ChangeAt Go.RowKit Go.Joins
open Go.ChangeMaps (open_string shut_string)
theorem RepNode.csame {w : World} {c d : Array Value} {vs us : List ValN} (h : RepNode w c vs) (h2 : RepNode w d us) {r : Bool} (hr : r = true ↔ vs = us) :
 Calls Tryz.prog 64 #[.agg c, .agg d] w fun e w' => e = .returned (.bool r) ∧ Wider w w' := by
 obtain ⟨a0, a1, a2, a3, a4, a5, a6, a8, A, n, cap, L, rfl, rfl, w0, w1, w2, w3, w4, w5, w6, w8, hA, hn, hn9, hL⟩ := h
 obtain ⟨b0, b1, b2, b3, b4, b5, b6, b8, B, m, cap2, M, rfl, rfl, w0', w1', w2', w3', w4', w5', w6', w8', hA', hn', hn9', hL'⟩ := h2
 refine csameNode_c w a0 a1 a2 a3 a4 a5 a6 a8 b0 b1 b2 b3 b4 b5 b6 b8 A B n cap m cap2 (rowsK ksArm L) (rowsK ksArm M) hA hA' (by rw [rowsK_len]; exact hn) (by rw [rowsK_len]; exact hn') hn9 hn9' (shapeArm hL) (shapeArm hL') ?_
 refine ⟨fun h => hr.2 ?_, fun h => ?_⟩
 · obtain ⟨hl, rfl, rfl, rfl, rfl, rfl, rfl, rfl, rfl⟩ := h
   obtain rfl := rowsK_inj (fun x hx => (hL x hx).1) (fun x hx => (hL' x hx).1) hl
   rfl
 · have q := hr.1 h
   simp only [List.cons.injEq, and_true, ValN.num.injEq, ValN.lst.injEq] at q
   obtain ⟨rfl, rfl, rfl, rfl, rfl, rfl, rfl, rfl, rfl⟩ := q
   exact ⟨rfl, rfl, rfl, rfl, rfl, rfl, rfl, rfl, rfl⟩
theorem RepField.csame {w : World} {c d : Array Value} {vs us : List ValN} (h : RepField w c vs) (h2 : RepField w d us) {r : Bool} (hr : r = true ↔ vs = us) :
 Calls Tryz.prog 65 #[.agg c, .agg d] w fun e w' => e = .returned (.bool r) ∧ Wider w w' := by
 obtain ⟨a0, a1, a2, a3, a4, rfl, rfl, w0, w1, w2, w3, w4⟩ := h
 obtain ⟨b0, b1, b2, b3, b4, rfl, rfl, w0', w1', w2', w3', w4'⟩ := h2
 refine csameField_c w a0 a1 a2 a3 a4 b0 b1 b2 b3 b4 ?_
 refine ⟨fun h => hr.2 ?_, fun h => ?_⟩
 · obtain ⟨rfl, rfl, rfl, rfl, rfl⟩ := h
   rfl
 · have q := hr.1 h
   simp only [List.cons.injEq, and_true, ValN.num.injEq] at q
   obtain ⟨rfl, rfl, rfl, rfl, rfl⟩ := q
   exact ⟨rfl, rfl, rfl, rfl, rfl⟩
theorem RepTable.csame {w : World} {c d : Array Value} {vs us : List ValN} (h : RepTable w c vs) (h2 : RepTable w d us) {r : Bool} (hr : r = true ↔ vs = us) :
 Calls Tryz.prog 66 #[.agg c, .agg d] w fun e w' => e = .returned (.bool r) ∧ Wider w w' := by
 obtain ⟨a0, a1, a3, a4, A, n, cap, L, rfl, rfl, w0, w1, w3, w4, hA, hn, hn9, hL⟩ := h
 obtain ⟨b0, b1, b3, b4, B, m, cap2, M, rfl, rfl, w0', w1', w3', w4', hA', hn', hn9', hL'⟩ := h2
 refine csameTable_c w a0 a1 a3 a4 b0 b1 b3 b4 A B n cap m cap2 (rowsK ksKey L) (rowsK ksKey M) hA hA' (by rw [rowsK_len]; exact hn) (by rw [rowsK_len]; exact hn') hn9 hn9' (shapeKey hL) (shapeKey hL') ?_
 refine ⟨fun h => hr.2 ?_, fun h => ?_⟩
 · obtain ⟨hl, rfl, rfl, rfl, rfl⟩ := h
   obtain rfl := rowsK_inj (fun x hx => (hL x hx).1) (fun x hx => (hL' x hx).1) hl
   rfl
 · have q := hr.1 h
   simp only [List.cons.injEq, and_true, ValN.num.injEq, ValN.lst.injEq] at q
   obtain ⟨rfl, rfl, rfl, rfl, rfl⟩ := q
   exact ⟨rfl, rfl, rfl, rfl, rfl⟩
theorem RepEntry.csame {w : World} {c d : Array Value} {vs us : List ValN} (h : RepEntry w c vs) (h2 : RepEntry w d us) {r : Bool} (hr : r = true ↔ vs = us) :
 Calls Tryz.prog 67 #[.agg c, .agg d] w fun e w' => e = .returned (.bool r) ∧ Wider w w' := by
 obtain ⟨a0, a3, a4, a5, a7, a8, a9, a1, a2, a10, A, n, cap, L, rfl, rfl, w0, w1, w2, w3, w4, w5, w7, w8, w9, hA, hn, hn9, hL⟩ := h
 obtain ⟨b0, b3, b4, b5, b7, b8, b9, b1, b2, b10, B, m, cap2, M, rfl, rfl, w0', w1', w2', w3', w4', w5', w7', w8', w9', hA', hn', hn9', hL'⟩ := h2
 refine csameEntry_c w a0 a1 a2 a3 a4 a5 a7 a8 a9 a10 b0 b1 b2 b3 b4 b5 b7 b8 b9 b10 A B n cap m cap2 (rowsK ksArg L) (rowsK ksArg M) hA hA' (by rw [rowsK_len]; exact hn) (by rw [rowsK_len]; exact hn') hn9 hn9' (shapeArg hL) (shapeArg hL') ?_
 refine ⟨fun h => hr.2 ?_, fun h => ?_⟩
 · obtain ⟨hl, rfl, rfl, rfl, rfl, rfl, rfl, rfl, rfl, rfl, rfl⟩ := h
   obtain rfl := rowsK_inj (fun x hx => (hL x hx).1) (fun x hx => (hL' x hx).1) hl
   rfl
 · have q := hr.1 h
   simp only [List.cons.injEq, and_true, ValN.num.injEq, ValN.txt.injEq, ValN.lst.injEq] at q
   obtain ⟨rfl, rfl, rfl, rfl, rfl, rfl, rfl, rfl, rfl, rfl, q10⟩ := q
   obtain rfl : a10 = b10 := by cases a10 <;> cases b10 <;> simp_all
   exact ⟨rfl, rfl, rfl, rfl, rfl, rfl, rfl, rfl, rfl, rfl, rfl⟩
theorem RepBlock.csame {w : World} {c d : Array Value} {vs us : List ValN} (h : RepBlock w c vs) (h2 : RepBlock w d us) {r : Bool} (hr : r = true ↔ vs = us) :
 Calls Tryz.prog 68 #[.agg c, .agg d] w fun e w' => e = .returned (.bool r) ∧ Wider w w' := by
 obtain ⟨a0, A, n, cap, L, rfl, rfl, w0, hA, hn, hn9, hL⟩ := h
 obtain ⟨b0, B, m, cap2, M, rfl, rfl, w0', hA', hn', hn9', hL'⟩ := h2
 refine csameBlock_c w a0 b0 A B n cap m cap2 (rowsK ksInstr L) (rowsK ksInstr M) hA hA' (by rw [rowsK_len]; exact hn) (by rw [rowsK_len]; exact hn') hn9 hn9' (shapeInstr hL) (shapeInstr hL') ?_
 refine ⟨fun h => hr.2 ?_, fun h => ?_⟩
 · obtain ⟨hl, rfl⟩ := h
   obtain rfl := rowsK_inj (fun x hx => (hL x hx).1) (fun x hx => (hL' x hx).1) hl
   rfl
 · have q := hr.1 h
   simp only [List.cons.injEq, and_true, ValN.num.injEq, ValN.lst.injEq] at q
   obtain ⟨rfl, rfl⟩ := q
   exact ⟨rfl, rfl⟩
theorem RepGroup.csame {w : World} {c d : Array Value} {vs us : List ValN} (h : RepGroup w c vs) (h2 : RepGroup w d us) {r : Bool} (hr : r = true ↔ vs = us) :
 Calls Tryz.prog 69 #[.agg c, .agg d] w fun e w' => e = .returned (.bool r) ∧ Wider w w' := by
 obtain ⟨a0, a1, a2, A, n, cap, L, rfl, rfl, w0, w1, w2, hA, hn, hn9, hL⟩ := h
 obtain ⟨b0, b1, b2, B, m, cap2, M, rfl, rfl, w0', w1', w2', hA', hn', hn9', hL'⟩ := h2
 refine csameGroup_c w a0 a1 a2 b0 b1 b2 A B n cap m cap2 (rowsK ksBucket L) (rowsK ksBucket M) hA hA' (by rw [rowsK_len]; exact hn) (by rw [rowsK_len]; exact hn') hn9 hn9' (shapeBucket hL) (shapeBucket hL') ?_
 refine ⟨fun h => hr.2 ?_, fun h => ?_⟩
 · obtain ⟨hl, rfl, rfl, rfl⟩ := h
   obtain rfl := rowsK_inj (fun x hx => (hL x hx).1) (fun x hx => (hL' x hx).1) hl
   rfl
 · have q := hr.1 h
   simp only [List.cons.injEq, and_true, ValN.num.injEq, ValN.lst.injEq] at q
   obtain ⟨rfl, rfl, rfl, rfl⟩ := q
   exact ⟨rfl, rfl, rfl, rfl⟩
theorem RepMeter.csame {w : World} {c d : Array Value} {vs us : List ValN} (h : RepMeter w c vs) (h2 : RepMeter w d us) {r : Bool} (hr : r = true ↔ vs = us) :
 Calls Tryz.prog 70 #[.agg c, .agg d] w fun e w' => e = .returned (.bool r) ∧ Wider w w' := by
 obtain ⟨a0, a1, a2, rfl, rfl, w0, w1, w2⟩ := h
 obtain ⟨b0, b1, b2, rfl, rfl, w0', w1', w2'⟩ := h2
 refine csameMeter_c w a0 a1 a2 b0 b1 b2 ?_
 refine ⟨fun h => hr.2 ?_, fun h => ?_⟩
 · obtain ⟨rfl, rfl, rfl⟩ := h
   rfl
 · have q := hr.1 h
   simp only [List.cons.injEq, and_true, ValN.num.injEq] at q
   obtain ⟨rfl, rfl, rfl⟩ := q
   exact ⟨rfl, rfl, rfl⟩
theorem RepRegs.csame {w : World} {c d : Array Value} {vs us : List ValN} (h : RepRegs w c vs) (h2 : RepRegs w d us) {r : Bool} (hr : r = true ↔ vs = us) :
 Calls Tryz.prog 71 #[.agg c, .agg d] w fun e w' => e = .returned (.bool r) ∧ Wider w w' := by
 obtain ⟨a0, a1, rfl, rfl, w0, w1⟩ := h
 obtain ⟨b0, b1, rfl, rfl, w0', w1'⟩ := h2
 refine csameRegs_c w a0 a1 b0 b1 ?_
 refine ⟨fun h => hr.2 ?_, fun h => ?_⟩
 · obtain ⟨rfl, rfl⟩ := h
   rfl
 · have q := hr.1 h
   simp only [List.cons.injEq, and_true, ValN.num.injEq] at q
   obtain ⟨rfl, rfl⟩ := q
   exact ⟨rfl, rfl⟩
end Go.Proofs.YtoopdhgmdjienaaGreatDoor
