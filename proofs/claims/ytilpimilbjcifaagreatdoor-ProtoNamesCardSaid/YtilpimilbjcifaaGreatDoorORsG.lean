/- Texts that belong together, one behind the other: ORs ORsNode ORsField ORsTable ORsEntry ORsBlock ORsGroup ORsMeter ORsRegs. -/
import Derived.Test.YtilpimilbjcifaaGreatDoorOTopB
import Derived.Test.YtilpimilbjcifaaGreatDoorOSameG
import Derived.Test.YtilpimilbjcifaaGreatDoorORepG
import Derived.Test.YtilpimilbjcifaaGreatDoorOSameEntry

/- Rows of items: when they are the same. -/
namespace Go.Proofs.YtilpimilbjcifaaGreatDoor
set_option linter.unusedVariables false
set_option maxRecDepth 20000
open Go.ChangeShapes Go.WideShapes Go.ChangeAt Go.RowKit Go.Joins
open Go.ChangeMaps (open_string shut_string)

theorem rowsK_len (ks : List IntKind) (L : List (List Int)) : (rowsK ks L).length = L.length := by simp [rowsK]
theorem zip_inj : ∀ (ks : List IntKind) (x y : List Int), x.length = ks.length → y.length = ks.length → List.zipWith Value.int ks x = List.zipWith Value.int ks y → x = y
  | [], [], [], _, _, _ => rfl
  | k :: ks, a :: x, b :: y, h1, h2, h => by
    simp only [List.zipWith_cons_cons, List.cons.injEq, Value.int.injEq, true_and] at h
    rw [h.1, zip_inj ks x y (by simpa using h1) (by simpa using h2) h.2]
  | [], _ :: _, _, h, _, _ => by simp at h
  | [], [], _ :: _, _, h, _ => by simp at h
  | _ :: _, [], _, h, _, _ => by simp at h
  | _ :: _, _ :: _, [], _, h, _ => by simp at h
theorem rowsK_inj {ks : List IntKind} : ∀ {L M : List (List Int)}, (∀ x ∈ L, x.length = ks.length) → (∀ x ∈ M, x.length = ks.length) → rowsK ks L = rowsK ks M → L = M
  | [], [], _, _, _ => rfl
  | x :: L, y :: M, h1, h2, h => by
    simp only [rowsK, List.map_cons, List.cons.injEq] at h
    rw [zip_inj ks x y (h1 x (.head _)) (h2 y (.head _)) h.1, rowsK_inj (fun z hz => h1 z (.tail _ hz)) (fun z hz => h2 z (.tail _ hz)) h.2]
  | [], _ :: _, _, _, h => by simp [rowsK] at h
  | _ :: _, [], _, _, h => by simp [rowsK] at h

theorem shapeArm {L : List (List Int)} (h : ∀ x ∈ L, wfK ksArm x) : ∀ y ∈ rowsK ksArm L, ∃ v0 v1 : Int, y = [.int .u32 v0, .int .i64 v1] := by
  intro y hy
  obtain ⟨x, hx, rfl⟩ := List.mem_map.1 hy
  have hl := (h x hx).1
  match x, hl with
  | [v0, v1], _ => exact ⟨v0, v1, rfl⟩
theorem shapeInstr {L : List (List Int)} (h : ∀ x ∈ L, wfK ksInstr x) : ∀ y ∈ rowsK ksInstr L, ∃ v0 v1 v2 v3 v4 v5 v6 : Int, y = [.int .u8 v0, .int .i64 v1, .int .u8 v2, .int .u64 v3, .int .u8 v4, .int .u64 v5, .int .i64 v6] := by
  intro y hy
  obtain ⟨x, hx, rfl⟩ := List.mem_map.1 hy
  have hl := (h x hx).1
  match x, hl with
  | [v0, v1, v2, v3, v4, v5, v6], _ => exact ⟨v0, v1, v2, v3, v4, v5, v6, rfl⟩
theorem shapeBucket {L : List (List Int)} (h : ∀ x ∈ L, wfK ksBucket x) : ∀ y ∈ rowsK ksBucket L, ∃ v0 v1 : Int, y = [.int .u64 v0, .int .i64 v1] := by
  intro y hy
  obtain ⟨x, hx, rfl⟩ := List.mem_map.1 hy
  have hl := (h x hx).1
  match x, hl with
  | [v0, v1], _ => exact ⟨v0, v1, rfl⟩
theorem shapeKey {L : List (List Int)} (h : ∀ x ∈ L, wfK ksKey x) : ∀ y ∈ rowsK ksKey L, ∃ v0 : Int, y = [.int .i64 v0] := by
  intro y hy
  obtain ⟨x, hx, rfl⟩ := List.mem_map.1 hy
  have hl := (h x hx).1
  match x, hl with
  | [v0], _ => exact ⟨v0, rfl⟩
theorem shapeArg {L : List (List Int)} (h : ∀ x ∈ L, wfK ksArg x) : ∀ y ∈ rowsK ksArg L, ∃ v0 : Int, y = [.int .u64 v0] := by
  intro y hy
  obtain ⟨x, hx, rfl⟩ := List.mem_map.1 hy
  have hl := (h x hx).1
  match x, hl with
  | [v0], _ => exact ⟨v0, rfl⟩
end Go.Proofs.YtilpimilbjcifaaGreatDoor

/- The document's SameNode on objects as laws hold them. -/
namespace Go.Proofs.YtilpimilbjcifaaGreatDoor
set_option linter.unusedVariables false
set_option maxRecDepth 20000
open Go.ChangeShapes Go.WideShapes Go.ChangeAt Go.RowKit Go.Joins
open Go.ChangeMaps (open_string shut_string)
theorem RepNode.same {w : World} {c d : Array Value} {vs us : List ValN} (h : RepNode w c vs) (h2 : RepNode w d us) {r : Bool} (hr : r = true ↔ vs = us) :
    Calls Tryz.prog 44 #[.agg c, .agg d] w fun e w' => e = .returned (.bool r) ∧ Wider w w' := by
  obtain ⟨a0, a1, a2, a3, a4, a5, a6, a8, A, n, cap, L, rfl, rfl, w0, w1, w2, w3, w4, w5, w6, w8, hA, hn, hn9, hL⟩ := h
  obtain ⟨b0, b1, b2, b3, b4, b5, b6, b8, B, m, cap2, M, rfl, rfl, w0', w1', w2', w3', w4', w5', w6', w8', hA', hn', hn9', hL'⟩ := h2
  refine rsameNode_c w a0 a1 a2 a3 a4 a5 a6 a8 b0 b1 b2 b3 b4 b5 b6 b8 A B n cap m cap2 (rowsK ksArm L) (rowsK ksArm M) hA hA' (by rw [rowsK_len]; exact hn) (by rw [rowsK_len]; exact hn') hn9 (shapeArm hL) (shapeArm hL') ?_
  refine ⟨fun h => hr.2 ?_, fun h => ?_⟩
  · obtain ⟨hl, rfl, rfl, rfl, rfl, rfl, rfl, rfl, rfl⟩ := h
    obtain rfl := rowsK_inj (fun x hx => (hL x hx).1) (fun x hx => (hL' x hx).1) hl
    rfl
  · have q := hr.1 h
    simp only [List.cons.injEq, and_true, ValN.num.injEq, ValN.lst.injEq] at q
    obtain ⟨rfl, rfl, rfl, rfl, rfl, rfl, rfl, rfl, rfl⟩ := q
    exact ⟨rfl, rfl, rfl, rfl, rfl, rfl, rfl, rfl, rfl⟩
end Go.Proofs.YtilpimilbjcifaaGreatDoor

/- The document's SameField on objects as laws hold them. -/
namespace Go.Proofs.YtilpimilbjcifaaGreatDoor
set_option linter.unusedVariables false
set_option maxRecDepth 20000
open Go.ChangeShapes Go.WideShapes Go.ChangeAt Go.RowKit Go.Joins
open Go.ChangeMaps (open_string shut_string)
theorem RepField.same {w : World} {c d : Array Value} {vs us : List ValN} (h : RepField w c vs) (h2 : RepField w d us) {r : Bool} (hr : r = true ↔ vs = us) :
    Calls Tryz.prog 45 #[.agg c, .agg d] w fun e w' => e = .returned (.bool r) ∧ Wider w w' := by
  obtain ⟨a0, a1, a2, a3, a4, rfl, rfl, w0, w1, w2, w3, w4⟩ := h
  obtain ⟨b0, b1, b2, b3, b4, rfl, rfl, w0', w1', w2', w3', w4'⟩ := h2
  refine rsameField_c w a0 a1 a2 a3 a4 b0 b1 b2 b3 b4 ?_
  refine ⟨fun h => hr.2 ?_, fun h => ?_⟩
  · obtain ⟨rfl, rfl, rfl, rfl, rfl⟩ := h
    rfl
  · have q := hr.1 h
    simp only [List.cons.injEq, and_true, ValN.num.injEq] at q
    obtain ⟨rfl, rfl, rfl, rfl, rfl⟩ := q
    exact ⟨rfl, rfl, rfl, rfl, rfl⟩
end Go.Proofs.YtilpimilbjcifaaGreatDoor

/- The document's SameTable on objects as laws hold them. -/
namespace Go.Proofs.YtilpimilbjcifaaGreatDoor
set_option linter.unusedVariables false
set_option maxRecDepth 20000
open Go.ChangeShapes Go.WideShapes Go.ChangeAt Go.RowKit Go.Joins
open Go.ChangeMaps (open_string shut_string)
theorem RepTable.same {w : World} {c d : Array Value} {vs us : List ValN} (h : RepTable w c vs) (h2 : RepTable w d us) {r : Bool} (hr : r = true ↔ vs = us) :
    Calls Tryz.prog 46 #[.agg c, .agg d] w fun e w' => e = .returned (.bool r) ∧ Wider w w' := by
  obtain ⟨a0, a1, a3, a4, A, n, cap, L, rfl, rfl, w0, w1, w3, w4, hA, hn, hn9, hL⟩ := h
  obtain ⟨b0, b1, b3, b4, B, m, cap2, M, rfl, rfl, w0', w1', w3', w4', hA', hn', hn9', hL'⟩ := h2
  refine rsameTable_c w a0 a1 a3 a4 b0 b1 b3 b4 A B n cap m cap2 (rowsK ksKey L) (rowsK ksKey M) hA hA' (by rw [rowsK_len]; exact hn) (by rw [rowsK_len]; exact hn') hn9 (shapeKey hL) (shapeKey hL') ?_
  refine ⟨fun h => hr.2 ?_, fun h => ?_⟩
  · obtain ⟨hl, rfl, rfl, rfl, rfl⟩ := h
    obtain rfl := rowsK_inj (fun x hx => (hL x hx).1) (fun x hx => (hL' x hx).1) hl
    rfl
  · have q := hr.1 h
    simp only [List.cons.injEq, and_true, ValN.num.injEq, ValN.lst.injEq] at q
    obtain ⟨rfl, rfl, rfl, rfl, rfl⟩ := q
    exact ⟨rfl, rfl, rfl, rfl, rfl⟩
end Go.Proofs.YtilpimilbjcifaaGreatDoor

/- The document's SameEntry on objects as laws hold them. -/
namespace Go.Proofs.YtilpimilbjcifaaGreatDoor
set_option linter.unusedVariables false
set_option maxRecDepth 20000
open Go.ChangeShapes Go.WideShapes Go.ChangeAt Go.RowKit Go.Joins
open Go.ChangeMaps (open_string shut_string)
theorem RepEntry.same {w : World} {c d : Array Value} {vs us : List ValN} (h : RepEntry w c vs) (h2 : RepEntry w d us) {r : Bool} (hr : r = true ↔ vs = us) :
    Calls Tryz.prog 47 #[.agg c, .agg d] w fun e w' => e = .returned (.bool r) ∧ Wider w w' := by
  obtain ⟨a0, a3, a4, a5, a7, a8, a9, a1, a2, a10, A, n, cap, L, rfl, rfl, w0, w1, w2, w3, w4, w5, w7, w8, w9, hA, hn, hn9, hL⟩ := h
  obtain ⟨b0, b3, b4, b5, b7, b8, b9, b1, b2, b10, B, m, cap2, M, rfl, rfl, w0', w1', w2', w3', w4', w5', w7', w8', w9', hA', hn', hn9', hL'⟩ := h2
  refine rsameEntry_c w a0 a1 a2 a3 a4 a5 a7 a8 a9 a10 b0 b1 b2 b3 b4 b5 b7 b8 b9 b10 A B n cap m cap2 (rowsK ksArg L) (rowsK ksArg M) hA hA' (by rw [rowsK_len]; exact hn) (by rw [rowsK_len]; exact hn') hn9 (shapeArg hL) (shapeArg hL') ?_
  refine ⟨fun h => hr.2 ?_, fun h => ?_⟩
  · obtain ⟨hl, rfl, rfl, rfl, rfl, rfl, rfl, rfl, rfl, rfl, rfl⟩ := h
    obtain rfl := rowsK_inj (fun x hx => (hL x hx).1) (fun x hx => (hL' x hx).1) hl
    rfl
  · have q := hr.1 h
    simp only [List.cons.injEq, and_true, ValN.num.injEq, ValN.txt.injEq, ValN.lst.injEq] at q
    obtain ⟨rfl, rfl, rfl, rfl, rfl, rfl, rfl, rfl, rfl, rfl, q10⟩ := q
    obtain rfl : a10 = b10 := by cases a10 <;> cases b10 <;> simp_all
    exact ⟨rfl, rfl, rfl, rfl, rfl, rfl, rfl, rfl, rfl, rfl, rfl⟩
end Go.Proofs.YtilpimilbjcifaaGreatDoor

/- The document's SameBlock on objects as laws hold them. -/
namespace Go.Proofs.YtilpimilbjcifaaGreatDoor
set_option linter.unusedVariables false
set_option maxRecDepth 20000
open Go.ChangeShapes Go.WideShapes Go.ChangeAt Go.RowKit Go.Joins
open Go.ChangeMaps (open_string shut_string)
theorem RepBlock.same {w : World} {c d : Array Value} {vs us : List ValN} (h : RepBlock w c vs) (h2 : RepBlock w d us) {r : Bool} (hr : r = true ↔ vs = us) :
    Calls Tryz.prog 48 #[.agg c, .agg d] w fun e w' => e = .returned (.bool r) ∧ Wider w w' := by
  obtain ⟨a0, A, n, cap, L, rfl, rfl, w0, hA, hn, hn9, hL⟩ := h
  obtain ⟨b0, B, m, cap2, M, rfl, rfl, w0', hA', hn', hn9', hL'⟩ := h2
  refine rsameBlock_c w a0 b0 A B n cap m cap2 (rowsK ksInstr L) (rowsK ksInstr M) hA hA' (by rw [rowsK_len]; exact hn) (by rw [rowsK_len]; exact hn') hn9 (shapeInstr hL) (shapeInstr hL') ?_
  refine ⟨fun h => hr.2 ?_, fun h => ?_⟩
  · obtain ⟨hl, rfl⟩ := h
    obtain rfl := rowsK_inj (fun x hx => (hL x hx).1) (fun x hx => (hL' x hx).1) hl
    rfl
  · have q := hr.1 h
    simp only [List.cons.injEq, and_true, ValN.num.injEq, ValN.lst.injEq] at q
    obtain ⟨rfl, rfl⟩ := q
    exact ⟨rfl, rfl⟩
end Go.Proofs.YtilpimilbjcifaaGreatDoor

/- The document's SameGroup on objects as laws hold them. -/
namespace Go.Proofs.YtilpimilbjcifaaGreatDoor
set_option linter.unusedVariables false
set_option maxRecDepth 20000
open Go.ChangeShapes Go.WideShapes Go.ChangeAt Go.RowKit Go.Joins
open Go.ChangeMaps (open_string shut_string)
theorem RepGroup.same {w : World} {c d : Array Value} {vs us : List ValN} (h : RepGroup w c vs) (h2 : RepGroup w d us) {r : Bool} (hr : r = true ↔ vs = us) :
    Calls Tryz.prog 49 #[.agg c, .agg d] w fun e w' => e = .returned (.bool r) ∧ Wider w w' := by
  obtain ⟨a0, a1, a2, A, n, cap, L, rfl, rfl, w0, w1, w2, hA, hn, hn9, hL⟩ := h
  obtain ⟨b0, b1, b2, B, m, cap2, M, rfl, rfl, w0', w1', w2', hA', hn', hn9', hL'⟩ := h2
  refine rsameGroup_c w a0 a1 a2 b0 b1 b2 A B n cap m cap2 (rowsK ksBucket L) (rowsK ksBucket M) hA hA' (by rw [rowsK_len]; exact hn) (by rw [rowsK_len]; exact hn') hn9 (shapeBucket hL) (shapeBucket hL') ?_
  refine ⟨fun h => hr.2 ?_, fun h => ?_⟩
  · obtain ⟨hl, rfl, rfl, rfl⟩ := h
    obtain rfl := rowsK_inj (fun x hx => (hL x hx).1) (fun x hx => (hL' x hx).1) hl
    rfl
  · have q := hr.1 h
    simp only [List.cons.injEq, and_true, ValN.num.injEq, ValN.lst.injEq] at q
    obtain ⟨rfl, rfl, rfl, rfl⟩ := q
    exact ⟨rfl, rfl, rfl, rfl⟩
end Go.Proofs.YtilpimilbjcifaaGreatDoor

/- The document's SameMeter on objects as laws hold them. -/
namespace Go.Proofs.YtilpimilbjcifaaGreatDoor
set_option linter.unusedVariables false
set_option maxRecDepth 20000
open Go.ChangeShapes Go.WideShapes Go.ChangeAt Go.RowKit Go.Joins
open Go.ChangeMaps (open_string shut_string)
theorem RepMeter.same {w : World} {c d : Array Value} {vs us : List ValN} (h : RepMeter w c vs) (h2 : RepMeter w d us) {r : Bool} (hr : r = true ↔ vs = us) :
    Calls Tryz.prog 50 #[.agg c, .agg d] w fun e w' => e = .returned (.bool r) ∧ Wider w w' := by
  obtain ⟨a0, a1, a2, rfl, rfl, w0, w1, w2⟩ := h
  obtain ⟨b0, b1, b2, rfl, rfl, w0', w1', w2'⟩ := h2
  refine rsameMeter_c w a0 a1 a2 b0 b1 b2 ?_
  refine ⟨fun h => hr.2 ?_, fun h => ?_⟩
  · obtain ⟨rfl, rfl, rfl⟩ := h
    rfl
  · have q := hr.1 h
    simp only [List.cons.injEq, and_true, ValN.num.injEq] at q
    obtain ⟨rfl, rfl, rfl⟩ := q
    exact ⟨rfl, rfl, rfl⟩
end Go.Proofs.YtilpimilbjcifaaGreatDoor

/- The document's SameRegs on objects as laws hold them. -/
namespace Go.Proofs.YtilpimilbjcifaaGreatDoor
set_option linter.unusedVariables false
set_option maxRecDepth 20000
open Go.ChangeShapes Go.WideShapes Go.ChangeAt Go.RowKit Go.Joins
open Go.ChangeMaps (open_string shut_string)
theorem RepRegs.same {w : World} {c d : Array Value} {vs us : List ValN} (h : RepRegs w c vs) (h2 : RepRegs w d us) {r : Bool} (hr : r = true ↔ vs = us) :
    Calls Tryz.prog 51 #[.agg c, .agg d] w fun e w' => e = .returned (.bool r) ∧ Wider w w' := by
  obtain ⟨a0, a1, rfl, rfl, w0, w1⟩ := h
  obtain ⟨b0, b1, rfl, rfl, w0', w1'⟩ := h2
  refine rsameRegs_c w a0 a1 b0 b1 ?_
  refine ⟨fun h => hr.2 ?_, fun h => ?_⟩
  · obtain ⟨rfl, rfl⟩ := h
    rfl
  · have q := hr.1 h
    simp only [List.cons.injEq, and_true, ValN.num.injEq] at q
    obtain ⟨rfl, rfl⟩ := q
    exact ⟨rfl, rfl⟩
end Go.Proofs.YtilpimilbjcifaaGreatDoor
