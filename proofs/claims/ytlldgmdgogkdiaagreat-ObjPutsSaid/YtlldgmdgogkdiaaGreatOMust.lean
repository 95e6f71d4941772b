/- The document's May and Put of each kind on objects as laws hold them. -/
import Derived.Test.YtlldgmdgogkdiaaGreatOLPutG
import Derived.Test.YtlldgmdgogkdiaaGreatOPutG
import Derived.Test.YtlldgmdgogkdiaaGreatORepG
namespace Go.Proofs.YtlldgmdgogkdiaaGreat
set_option linter.unusedVariables false
set_option maxRecDepth 20000
open Go.ChangeShapes Go.WideShapes Go.ChangeAt Go.RowKit Go.Joins
open Go.ChangeMaps (open_string shut_string)

theorem isArm_K {x : List Int} (h : wfK ksArm x) : isArmI x := by
  obtain ⟨hl, hw⟩ := h
  match x, hl with
  | [x0, x1], _ => exact ⟨x0, x1, rfl, hw 0 _ _ rfl rfl, hw 1 _ _ rfl rfl⟩
theorem isInstr_K {x : List Int} (h : wfK ksInstr x) : isInstrI x := by
  obtain ⟨hl, hw⟩ := h
  match x, hl with
  | [x0, x1, x2, x3, x4, x5, x6], _ => exact ⟨x0, x1, x2, x3, x4, x5, x6, rfl, hw 0 _ _ rfl rfl, hw 1 _ _ rfl rfl, hw 2 _ _ rfl rfl, hw 3 _ _ rfl rfl, hw 4 _ _ rfl rfl, hw 5 _ _ rfl rfl, hw 6 _ _ rfl rfl⟩
theorem isBucket_K {x : List Int} (h : wfK ksBucket x) : isBucketI x := by
  obtain ⟨hl, hw⟩ := h
  match x, hl with
  | [x0, x1], _ => exact ⟨x0, x1, rfl, hw 0 _ _ rfl rfl, hw 1 _ _ rfl rfl⟩
theorem ones_K {k : IntKind} : ∀ {L : List (List Int)}, (∀ x ∈ L, wfK [k] x) → ∃ M : List Int, L = M.map (fun x => [x]) ∧ ∀ m ∈ M, (Lit.int k m).wf = true
  | [], _ => ⟨[], rfl, fun m h => by cases h⟩
  | x :: L, h => by
    obtain ⟨M, e, hM⟩ := ones_K (L := L) fun y hy => h y (.tail _ hy)
    obtain ⟨hl, hw⟩ := h x (.head _)
    match x, hl with
    | [n], _ =>
      refine ⟨n :: M, by rw [e]; rfl, fun m hm => ?_⟩
      rcases List.mem_cons.1 hm with rfl | hm
      · exact hw 0 k m rfl rfl
      · exact hM m hm
theorem putG_to {β : Type} {cs : List (Cod β)} {xs : List β} {T : ByteArray} {r : Nat} (h : PutG cs xs T r) : ∃ b : Bool, (b = true ↔ okG cs xs) ∧ (if b = true then encG cs xs else ⟨#[]⟩) = T ∧ (if b = true then 0 else 3) = r := by
  rcases h with ⟨h1, h2, h3⟩ | ⟨h1, h2, h3⟩
  · exact ⟨true, by simp [h1], h2.symm, h3.symm⟩
  · exact ⟨false, by simp [h1], h2.symm, h3.symm⟩
theorem RepNode.omay {w : World} {c : Array Value} {vs : List ValN} (h : RepNode w c vs) {b : Bool} (hb : b = true ↔ okG csNode vs) :
    Calls Tryz.prog 40 #[.agg c] w fun e w' => e = .returned (.bool b) ∧ Wider w w' := by
  obtain ⟨v0, v1, v2, v3, v4, v5, v6, v8, A, n, cap, L, rfl, rfl, w0, w1, w2, w3, w4, w5, w6, w8, hA, hn, hn9, hL⟩ := h
  exact omayNode_c w w0 w1 w2 w3 w4 w5 w6 w8 hA hn hn9 (fun x hx => isArm_K (hL x hx)) hb
theorem RepNode.oput {w : World} {c : Array Value} {vs : List ValN} (h : RepNode w c vs) {T : ByteArray} {r : Nat} (hr : PutG csNode vs T r) :
    Calls Tryz.prog 48 #[.agg c] w fun e w' => e = .returned (.tuple #[.string T, .int .i64 (r : Int)]) ∧ Wider w w' := by
  obtain ⟨b, hb, hT, hrr⟩ := putG_to hr
  obtain ⟨v0, v1, v2, v3, v4, v5, v6, v8, A, n, cap, L, rfl, rfl, w0, w1, w2, w3, w4, w5, w6, w8, hA, hn, hn9, hL⟩ := h
  exact oputNode_c w w0 w1 w2 w3 w4 w5 w6 w8 hA hn hn9 (fun x hx => isArm_K (hL x hx)) hb hT hrr
theorem RepField.omay {w : World} {c : Array Value} {vs : List ValN} (h : RepField w c vs) {b : Bool} (hb : b = true ↔ okG csField vs) :
    Calls Tryz.prog 41 #[.agg c] w fun e w' => e = .returned (.bool b) ∧ Wider w w' := by
  obtain ⟨v0, v1, v2, v3, v4, rfl, rfl, w0, w1, w2, w3, w4⟩ := h
  exact omayField_c w w0 w1 w2 w3 w4 hb
theorem RepField.oput {w : World} {c : Array Value} {vs : List ValN} (h : RepField w c vs) {T : ByteArray} {r : Nat} (hr : PutG csField vs T r) :
    Calls Tryz.prog 49 #[.agg c] w fun e w' => e = .returned (.tuple #[.string T, .int .i64 (r : Int)]) ∧ Wider w w' := by
  obtain ⟨b, hb, hT, hrr⟩ := putG_to hr
  obtain ⟨v0, v1, v2, v3, v4, rfl, rfl, w0, w1, w2, w3, w4⟩ := h
  exact oputField_c w w0 w1 w2 w3 w4 hb hT hrr
theorem RepTable.omay {w : World} {c : Array Value} {vs : List ValN} (h : RepTable w c vs) {b : Bool} (hb : b = true ↔ okG csTable vs) :
    Calls Tryz.prog 42 #[.agg c] w fun e w' => e = .returned (.bool b) ∧ Wider w w' := by
  obtain ⟨v0, v1, v3, v4, A, n, cap, L, rfl, rfl, w0, w1, w3, w4, hA, hn, hn9, hL⟩ := h
  obtain ⟨M, rfl, hM⟩ := ones_K hL
  have hA2 : RowAt w A 1 (rowsI .i64 M) := by rw [rowsI_K]; exact hA
  exact omayTable_c w w0 w1 w3 w4 hA2 (by rw [List.length_map] at hn; exact hn) hn9 hb
theorem RepTable.oput {w : World} {c : Array Value} {vs : List ValN} (h : RepTable w c vs) {T : ByteArray} {r : Nat} (hr : PutG csTable vs T r) :
    Calls Tryz.prog 50 #[.agg c] w fun e w' => e = .returned (.tuple #[.string T, .int .i64 (r : Int)]) ∧ Wider w w' := by
  obtain ⟨b, hb, hT, hrr⟩ := putG_to hr
  obtain ⟨v0, v1, v3, v4, A, n, cap, L, rfl, rfl, w0, w1, w3, w4, hA, hn, hn9, hL⟩ := h
  obtain ⟨M, rfl, hM⟩ := ones_K hL
  have hA2 : RowAt w A 1 (rowsI .i64 M) := by rw [rowsI_K]; exact hA
  exact oputTable_c w w0 w1 w3 w4 hA2 (by rw [List.length_map] at hn; exact hn) hn9 hb hT hrr
theorem RepEntry.omay {w : World} {c : Array Value} {vs : List ValN} (h : RepEntry w c vs) {b : Bool} (hb : b = true ↔ okG csEntry vs) :
    Calls Tryz.prog 43 #[.agg c] w fun e w' => e = .returned (.bool b) ∧ Wider w w' := by
  obtain ⟨v0, v3, v4, v5, v7, v8, v9, v1, v2, v10, A, n, cap, L, rfl, rfl, w0, w1, w2, w3, w4, w5, w7, w8, w9, hA, hn, hn9, hL⟩ := h
  obtain ⟨M, rfl, hM⟩ := ones_K hL
  have hA2 : RowAt w A 1 (rowsI .u64 M) := by rw [rowsI_K]; exact hA
  exact omayEntry_c w w0 w3 w4 w5 w7 w8 w9 hA2 (by rw [List.length_map] at hn; exact hn) hn9 hM hb
theorem RepEntry.oput {w : World} {c : Array Value} {vs : List ValN} (h : RepEntry w c vs) {T : ByteArray} {r : Nat} (hr : PutG csEntry vs T r) :
    Calls Tryz.prog 51 #[.agg c] w fun e w' => e = .returned (.tuple #[.string T, .int .i64 (r : Int)]) ∧ Wider w w' := by
  obtain ⟨b, hb, hT, hrr⟩ := putG_to hr
  obtain ⟨v0, v3, v4, v5, v7, v8, v9, v1, v2, v10, A, n, cap, L, rfl, rfl, w0, w1, w2, w3, w4, w5, w7, w8, w9, hA, hn, hn9, hL⟩ := h
  obtain ⟨M, rfl, hM⟩ := ones_K hL
  have hA2 : RowAt w A 1 (rowsI .u64 M) := by rw [rowsI_K]; exact hA
  exact oputEntry_c w w0 w3 w4 w5 w7 w8 w9 hA2 (by rw [List.length_map] at hn; exact hn) hn9 hM hb hT hrr
theorem RepBlock.omay {w : World} {c : Array Value} {vs : List ValN} (h : RepBlock w c vs) {b : Bool} (hb : b = true ↔ okG csBlock vs) :
    Calls Tryz.prog 44 #[.agg c] w fun e w' => e = .returned (.bool b) ∧ Wider w w' := by
  obtain ⟨v0, A, n, cap, L, rfl, rfl, w0, hA, hn, hn9, hL⟩ := h
  exact omayBlock_c w w0 hA hn hn9 (fun x hx => isInstr_K (hL x hx)) hb
theorem RepBlock.oput {w : World} {c : Array Value} {vs : List ValN} (h : RepBlock w c vs) {T : ByteArray} {r : Nat} (hr : PutG csBlock vs T r) :
    Calls Tryz.prog 52 #[.agg c] w fun e w' => e = .returned (.tuple #[.string T, .int .i64 (r : Int)]) ∧ Wider w w' := by
  obtain ⟨b, hb, hT, hrr⟩ := putG_to hr
  obtain ⟨v0, A, n, cap, L, rfl, rfl, w0, hA, hn, hn9, hL⟩ := h
  exact oputBlock_c w w0 hA hn hn9 (fun x hx => isInstr_K (hL x hx)) hb hT hrr
theorem RepGroup.omay {w : World} {c : Array Value} {vs : List ValN} (h : RepGroup w c vs) {b : Bool} (hb : b = true ↔ okG csGroup vs) :
    Calls Tryz.prog 45 #[.agg c] w fun e w' => e = .returned (.bool b) ∧ Wider w w' := by
  obtain ⟨v0, v1, v2, A, n, cap, L, rfl, rfl, w0, w1, w2, hA, hn, hn9, hL⟩ := h
  exact omayGroup_c w w0 w1 w2 hA hn hn9 (fun x hx => isBucket_K (hL x hx)) hb
theorem RepGroup.oput {w : World} {c : Array Value} {vs : List ValN} (h : RepGroup w c vs) {T : ByteArray} {r : Nat} (hr : PutG csGroup vs T r) :
    Calls Tryz.prog 53 #[.agg c] w fun e w' => e = .returned (.tuple #[.string T, .int .i64 (r : Int)]) ∧ Wider w w' := by
  obtain ⟨b, hb, hT, hrr⟩ := putG_to hr
  obtain ⟨v0, v1, v2, A, n, cap, L, rfl, rfl, w0, w1, w2, hA, hn, hn9, hL⟩ := h
  exact oputGroup_c w w0 w1 w2 hA hn hn9 (fun x hx => isBucket_K (hL x hx)) hb hT hrr
theorem RepMeter.omay {w : World} {c : Array Value} {vs : List ValN} (h : RepMeter w c vs) {b : Bool} (hb : b = true ↔ okG csMeter vs) :
    Calls Tryz.prog 46 #[.agg c] w fun e w' => e = .returned (.bool b) ∧ Wider w w' := by
  obtain ⟨v0, v1, v2, rfl, rfl, w0, w1, w2⟩ := h
  exact omayMeter_c w w0 w1 w2 hb
theorem RepMeter.oput {w : World} {c : Array Value} {vs : List ValN} (h : RepMeter w c vs) {T : ByteArray} {r : Nat} (hr : PutG csMeter vs T r) :
    Calls Tryz.prog 54 #[.agg c] w fun e w' => e = .returned (.tuple #[.string T, .int .i64 (r : Int)]) ∧ Wider w w' := by
  obtain ⟨b, hb, hT, hrr⟩ := putG_to hr
  obtain ⟨v0, v1, v2, rfl, rfl, w0, w1, w2⟩ := h
  exact oputMeter_c w w0 w1 w2 hb hT hrr
theorem RepRegs.omay {w : World} {c : Array Value} {vs : List ValN} (h : RepRegs w c vs) {b : Bool} (hb : b = true ↔ okG csRegs vs) :
    Calls Tryz.prog 47 #[.agg c] w fun e w' => e = .returned (.bool b) ∧ Wider w w' := by
  obtain ⟨v0, v1, rfl, rfl, w0, w1⟩ := h
  exact omayRegs_c w w0 w1 hb
theorem RepRegs.oput {w : World} {c : Array Value} {vs : List ValN} (h : RepRegs w c vs) {T : ByteArray} {r : Nat} (hr : PutG csRegs vs T r) :
    Calls Tryz.prog 55 #[.agg c] w fun e w' => e = .returned (.tuple #[.string T, .int .i64 (r : Int)]) ∧ Wider w w' := by
  obtain ⟨b, hb, hT, hrr⟩ := putG_to hr
  obtain ⟨v0, v1, rfl, rfl, w0, w1⟩ := h
  exact oputRegs_c w w0 w1 hb hT hrr
end Go.Proofs.YtlldgmdgogkdiaaGreat
