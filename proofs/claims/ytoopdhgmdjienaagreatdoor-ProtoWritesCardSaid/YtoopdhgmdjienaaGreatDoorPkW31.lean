/- OMust PValue PWritesM -/
import Derived.Test.YtoopdhgmdjienaaGreatDoorPkW26
import Derived.Test.YtoopdhgmdjienaaGreatDoorPkW27
import Derived.Test.YtoopdhgmdjienaaGreatDoorPkW28
import Derived.Test.YtoopdhgmdjienaaGreatDoorPkW29
import Derived.Test.YtoopdhgmdjienaaGreatDoorPkW30
import Derived.Test.YtoopdhgmdjienaaGreatDoorPkW16
import Derived.Test.YtoopdhgmdjienaaGreatDoorPkW18
import Derived.Test.YtoopdhgmdjienaaGreatDoorPkW19
import Derived.Test.YtoopdhgmdjienaaGreatDoorPkW20
import Derived.Test.YtoopdhgmdjienaaGreatDoorPkW22
import Derived.Test.YtoopdhgmdjienaaGreatDoorPkW07
import Derived.Test.YtoopdhgmdjienaaGreatDoorPkW03
namespace Go.Proofs.YtoopdhgmdjienaaGreatDoor
set_option linter.unusedVariables false
set_option maxRecDepth 20000
open Go.ChangeShapes Go.WideShapes Go.ChangeAt Go.RowKit Go.Joins
open Go.ChangeMaps (open_string shut_string)
theorem isArm_K {x : List Int} (h : wfK ksArm x) : isArmI x := by
 obtain ⟨hl, hw⟩ := h
 match x, hl with
 | [x0, x1], _ => exact ⟨x0, x1, rfl, hw 0 _ _ rfl rfl, hw 1 _ _ rfl rfl⟩
theorem isInstr_K {x : List Int} (h : wfK ksInstr x) : isInstrI x := by
 obtain ⟨hl, hw⟩ := h
 match x, hl with
 | [x0, x1, x2, x3, x4, x5, x6], _ => exact ⟨x0, x1, x2, x3, x4, x5, x6, rfl, hw 0 _ _ rfl rfl, hw 1 _ _ rfl rfl, hw 2 _ _ rfl rfl, hw 3 _ _ rfl rfl, hw 4 _ _ rfl rfl, hw 5 _ _ rfl rfl, hw 6 _ _ rfl rfl⟩
theorem isBucket_K {x : List Int} (h : wfK ksBucket x) : isBucketI x := by
 obtain ⟨hl, hw⟩ := h
 match x, hl with
 | [x0, x1], _ => exact ⟨x0, x1, rfl, hw 0 _ _ rfl rfl, hw 1 _ _ rfl rfl⟩
theorem ones_K {k : IntKind} : ∀ {L : List (List Int)}, (∀ x ∈ L, wfK [k] x) → ∃ M : List Int, L = M.map (fun x => [x]) ∧ ∀ m ∈ M, (Lit.int k m).wf = true
 | [], _ => ⟨[], rfl, fun m h => by cases h⟩
 | x :: L, h => by
   obtain ⟨M, e, hM⟩ := ones_K (L := L) fun y hy => h y (.tail _ hy)
   obtain ⟨hl, hw⟩ := h x (.head _)
   match x, hl with
   | [n], _ =>
     refine ⟨n :: M, by rw [e]; rfl, fun m hm => ?_⟩
     rcases List.mem_cons.1 hm with rfl | hm
     · exact hw 0 k m rfl rfl
     · exact hM m hm
theorem putG_to {β : Type} {cs : List (Cod β)} {xs : List β} {T : ByteArray} {r : Nat} (h : PutG cs xs T r) : ∃ b : Bool, (b = true ↔ okG cs xs) ∧ (if b = true then encG cs xs else ⟨#[]⟩) = T ∧ (if b = true then 0 else 3) = r := by
 rcases h with ⟨h1, h2, h3⟩ | ⟨h1, h2, h3⟩
 · exact ⟨true, by simp [h1], h2.symm, h3.symm⟩
 · exact ⟨false, by simp [h1], h2.symm, h3.symm⟩
theorem RepNode.omay {w : World} {c : Array Value} {vs : List ValN} (h : RepNode w c vs) {b : Bool} (hb : b = true ↔ okG csNode vs) :
 Calls Tryz.prog 55 #[.agg c] w fun e w' => e = .returned (.bool b) ∧ Wider w w' := by
 obtain ⟨v0, v1, v2, v3, v4, v5, v6, v8, A, n, cap, L, rfl, rfl, w0, w1, w2, w3, w4, w5, w6, w8, hA, hn, hn9, hL⟩ := h
 exact omayNode_c w w0 w1 w2 w3 w4 w5 w6 w8 hA hn hn9 (fun x hx => isArm_K (hL x hx)) hb
theorem RepNode.oput {w : World} {c : Array Value} {vs : List ValN} (h : RepNode w c vs) {T : ByteArray} {r : Nat} (hr : PutG csNode vs T r) :
 Calls Tryz.prog 97 #[.agg c] w fun e w' => e = .returned (.tuple #[.string T, .int .i64 (r : Int)]) ∧ Wider w w' := by
 obtain ⟨b, hb, hT, hrr⟩ := putG_to hr
 obtain ⟨v0, v1, v2, v3, v4, v5, v6, v8, A, n, cap, L, rfl, rfl, w0, w1, w2, w3, w4, w5, w6, w8, hA, hn, hn9, hL⟩ := h
 exact oputNode_c w w0 w1 w2 w3 w4 w5 w6 w8 hA hn hn9 (fun x hx => isArm_K (hL x hx)) hb hT hrr
theorem RepField.omay {w : World} {c : Array Value} {vs : List ValN} (h : RepField w c vs) {b : Bool} (hb : b = true ↔ okG csField vs) :
 Calls Tryz.prog 56 #[.agg c] w fun e w' => e = .returned (.bool b) ∧ Wider w w' := by
 obtain ⟨v0, v1, v2, v3, v4, rfl, rfl, w0, w1, w2, w3, w4⟩ := h
 exact omayField_c w w0 w1 w2 w3 w4 hb
theorem RepField.oput {w : World} {c : Array Value} {vs : List ValN} (h : RepField w c vs) {T : ByteArray} {r : Nat} (hr : PutG csField vs T r) :
 Calls Tryz.prog 98 #[.agg c] w fun e w' => e = .returned (.tuple #[.string T, .int .i64 (r : Int)]) ∧ Wider w w' := by
 obtain ⟨b, hb, hT, hrr⟩ := putG_to hr
 obtain ⟨v0, v1, v2, v3, v4, rfl, rfl, w0, w1, w2, w3, w4⟩ := h
 exact oputField_c w w0 w1 w2 w3 w4 hb hT hrr
theorem RepTable.omay {w : World} {c : Array Value} {vs : List ValN} (h : RepTable w c vs) {b : Bool} (hb : b = true ↔ okG csTable vs) :
 Calls Tryz.prog 57 #[.agg c] w fun e w' => e = .returned (.bool b) ∧ Wider w w' := by
 obtain ⟨v0, v1, v3, v4, A, n, cap, L, rfl, rfl, w0, w1, w3, w4, hA, hn, hn9, hL⟩ := h
 obtain ⟨M, rfl, hM⟩ := ones_K hL
 have hA2 : RowAt w A 1 (rowsI .i64 M) := by rw [rowsI_K]; exact hA
 exact omayTable_c w w0 w1 w3 w4 hA2 (by rw [List.length_map] at hn; exact hn) hn9 hb
theorem RepTable.oput {w : World} {c : Array Value} {vs : List ValN} (h : RepTable w c vs) {T : ByteArray} {r : Nat} (hr : PutG csTable vs T r) :
 Calls Tryz.prog 99 #[.agg c] w fun e w' => e = .returned (.tuple #[.string T, .int .i64 (r : Int)]) ∧ Wider w w' := by
 obtain ⟨b, hb, hT, hrr⟩ := putG_to hr
 obtain ⟨v0, v1, v3, v4, A, n, cap, L, rfl, rfl, w0, w1, w3, w4, hA, hn, hn9, hL⟩ := h
 obtain ⟨M, rfl, hM⟩ := ones_K hL
 have hA2 : RowAt w A 1 (rowsI .i64 M) := by rw [rowsI_K]; exact hA
 exact oputTable_c w w0 w1 w3 w4 hA2 (by rw [List.length_map] at hn; exact hn) hn9 hb hT hrr
theorem RepEntry.omay {w : World} {c : Array Value} {vs : List ValN} (h : RepEntry w c vs) {b : Bool} (hb : b = true ↔ okG csEntry vs) :
 Calls Tryz.prog 58 #[.agg c] w fun e w' => e = .returned (.bool b) ∧ Wider w w' := by
 obtain ⟨v0, v3, v4, v5, v7, v8, v9, v1, v2, v10, A, n, cap, L, rfl, rfl, w0, w1, w2, w3, w4, w5, w7, w8, w9, hA, hn, hn9, hL⟩ := h
 obtain ⟨M, rfl, hM⟩ := ones_K hL
 have hA2 : RowAt w A 1 (rowsI .u64 M) := by rw [rowsI_K]; exact hA
 exact omayEntry_c w w0 w3 w4 w5 w7 w8 w9 hA2 (by rw [List.length_map] at hn; exact hn) hn9 hM hb
theorem RepEntry.oput {w : World} {c : Array Value} {vs : List ValN} (h : RepEntry w c vs) {T : ByteArray} {r : Nat} (hr : PutG csEntry vs T r) :
 Calls Tryz.prog 100 #[.agg c] w fun e w' => e = .returned (.tuple #[.string T, .int .i64 (r : Int)]) ∧ Wider w w' := by
 obtain ⟨b, hb, hT, hrr⟩ := putG_to hr
 obtain ⟨v0, v3, v4, v5, v7, v8, v9, v1, v2, v10, A, n, cap, L, rfl, rfl, w0, w1, w2, w3, w4, w5, w7, w8, w9, hA, hn, hn9, hL⟩ := h
 obtain ⟨M, rfl, hM⟩ := ones_K hL
 have hA2 : RowAt w A 1 (rowsI .u64 M) := by rw [rowsI_K]; exact hA
 exact oputEntry_c w w0 w3 w4 w5 w7 w8 w9 hA2 (by rw [List.length_map] at hn; exact hn) hn9 hM hb hT hrr
theorem RepBlock.omay {w : World} {c : Array Value} {vs : List ValN} (h : RepBlock w c vs) {b : Bool} (hb : b = true ↔ okG csBlock vs) :
 Calls Tryz.prog 59 #[.agg c] w fun e w' => e = .returned (.bool b) ∧ Wider w w' := by
 obtain ⟨v0, A, n, cap, L, rfl, rfl, w0, hA, hn, hn9, hL⟩ := h
 exact omayBlock_c w w0 hA hn hn9 (fun x hx => isInstr_K (hL x hx)) hb
theorem RepBlock.oput {w : World} {c : Array Value} {vs : List ValN} (h : RepBlock w c vs) {T : ByteArray} {r : Nat} (hr : PutG csBlock vs T r) :
 Calls Tryz.prog 101 #[.agg c] w fun e w' => e = .returned (.tuple #[.string T, .int .i64 (r : Int)]) ∧ Wider w w' := by
 obtain ⟨b, hb, hT, hrr⟩ := putG_to hr
 obtain ⟨v0, A, n, cap, L, rfl, rfl, w0, hA, hn, hn9, hL⟩ := h
 exact oputBlock_c w w0 hA hn hn9 (fun x hx => isInstr_K (hL x hx)) hb hT hrr
theorem RepGroup.omay {w : World} {c : Array Value} {vs : List ValN} (h : RepGroup w c vs) {b : Bool} (hb : b = true ↔ okG csGroup vs) :
 Calls Tryz.prog 60 #[.agg c] w fun e w' => e = .returned (.bool b) ∧ Wider w w' := by
 obtain ⟨v0, v1, v2, A, n, cap, L, rfl, rfl, w0, w1, w2, hA, hn, hn9, hL⟩ := h
 exact omayGroup_c w w0 w1 w2 hA hn hn9 (fun x hx => isBucket_K (hL x hx)) hb
theorem RepGroup.oput {w : World} {c : Array Value} {vs : List ValN} (h : RepGroup w c vs) {T : ByteArray} {r : Nat} (hr : PutG csGroup vs T r) :
 Calls Tryz.prog 102 #[.agg c] w fun e w' => e = .returned (.tuple #[.string T, .int .i64 (r : Int)]) ∧ Wider w w' := by
 obtain ⟨b, hb, hT, hrr⟩ := putG_to hr
 obtain ⟨v0, v1, v2, A, n, cap, L, rfl, rfl, w0, w1, w2, hA, hn, hn9, hL⟩ := h
 exact oputGroup_c w w0 w1 w2 hA hn hn9 (fun x hx => isBucket_K (hL x hx)) hb hT hrr
theorem RepMeter.omay {w : World} {c : Array Value} {vs : List ValN} (h : RepMeter w c vs) {b : Bool} (hb : b = true ↔ okG csMeter vs) :
 Calls Tryz.prog 61 #[.agg c] w fun e w' => e = .returned (.bool b) ∧ Wider w w' := by
 obtain ⟨v0, v1, v2, rfl, rfl, w0, w1, w2⟩ := h
 exact omayMeter_c w w0 w1 w2 hb
theorem RepMeter.oput {w : World} {c : Array Value} {vs : List ValN} (h : RepMeter w c vs) {T : ByteArray} {r : Nat} (hr : PutG csMeter vs T r) :
 Calls Tryz.prog 103 #[.agg c] w fun e w' => e = .returned (.tuple #[.string T, .int .i64 (r : Int)]) ∧ Wider w w' := by
 obtain ⟨b, hb, hT, hrr⟩ := putG_to hr
 obtain ⟨v0, v1, v2, rfl, rfl, w0, w1, w2⟩ := h
 exact oputMeter_c w w0 w1 w2 hb hT hrr
theorem RepRegs.omay {w : World} {c : Array Value} {vs : List ValN} (h : RepRegs w c vs) {b : Bool} (hb : b = true ↔ okG csRegs vs) :
 Calls Tryz.prog 62 #[.agg c] w fun e w' => e = .returned (.bool b) ∧ Wider w w' := by
 obtain ⟨v0, v1, rfl, rfl, w0, w1⟩ := h
 exact omayRegs_c w w0 w1 hb
theorem RepRegs.oput {w : World} {c : Array Value} {vs : List ValN} (h : RepRegs w c vs) {T : ByteArray} {r : Nat} (hr : PutG csRegs vs T r) :
 Calls Tryz.prog 104 #[.agg c] w fun e w' => e = .returned (.tuple #[.string T, .int .i64 (r : Int)]) ∧ Wider w w' := by
 obtain ⟨b, hb, hT, hrr⟩ := putG_to hr
 obtain ⟨v0, v1, rfl, rfl, w0, w1⟩ := h
 exact oputRegs_c w w0 w1 hb hT hrr
def ValW (w : World) (M : Array Value) (t : Int) (p : PartN) (i : Nat) : Prop := Calls Tryz.prog 52 #[.agg M, .int .u8 t] w fun x w' => x = .returned (.string ((partC topD i).enc p)) ∧ Wider w w'
theorem one_box (w : World) (M : Array Value) : ∃ W B, w.alloc (.cells M 51) = W ∧ w.heap.size = B ∧ Wider w W ∧ W.heap[B]? = some (.cells M 51 (0, 0)) := ⟨_, _, rfl, rfl, (Wider.refl w).alloc _, heap_alloc_new w _⟩
theorem num_cell {w : World} {M : Array Value} {d : MsgD} (R : RepD w M d) (i : Nat) (hi : i < 5) : ∃ v, M[i + 2]? = some (.int .i64 v) ∧ d.part i = .one (.num v) := by
 match i, hi with
 | 0, _ => exact ⟨_, R.c2, rfl⟩
 | 1, _ => exact ⟨_, R.c3, rfl⟩
 | 2, _ => exact ⟨_, R.c4, rfl⟩
 | 3, _ => exact ⟨_, R.c5, rfl⟩
 | 4, _ => exact ⟨_, R.c6, rfl⟩
theorem long_cell {w : World} {M : Array Value} {d : MsgD} (R : RepD w M d) (i : Nat) (hi : i < 2) : ∃ v, M[i + 7]? = some (.int .u64 v) ∧ d.part (i + 5) = .one (.num v) ∧ (Lit.int .u64 v).wf = true := by
 match i, hi with
 | 0, _ => exact ⟨_, R.c7, rfl, R.w7⟩
 | 1, _ => exact ⟨_, R.c8, rfl, R.w8⟩
theorem partC_few (i : Nat) (hi : i < 5) : partC topD i = oneP nI := by
 match i, hi with
 | 0, _ | 1, _ | 2, _ | 3, _ | 4, _ => rfl
theorem partC_longs (i : Nat) (hi : i < 2) : partC topD (i + 5) = oneP nU := by
 match i, hi with
 | 0, _ | 1, _ => rfl
set_option maxHeartbeats 16000000 in
theorem rvalue_nums {w : World} {M : Array Value} {d : MsgD} (R : RepD w M d) (i : Nat) (hi : i < 5) (ho : (partC topD i).ok (d.part i)) : ValW w M ((i + 1 : Nat) : Int) (d.part i) i := by
 obtain ⟨v, e1, ep⟩ := num_cell R i hi
 obtain ⟨W, B, hW, hB, G, h0⟩ := one_box w M
 have q1 := blk_cell h0 _ e1
 rw [partC_few i hi, ep] at ho
 obtain ⟨u, e2, ok⟩ := ho
 injection e2 with e2
 subst e2
 obtain ⟨v0, v1⟩ := numV_okN.1 ok
 have vt : v ≤ 2147483647 := v1
 have u0 : IntKind.u64.wrap v = v := by rw [IntKind.wrap_u64]; omega
 unfold ValW
 rw [partC_few i hi, ep]
 obtain ⟨X, hX⟩ : ∃ X, (oneP nI).enc (.one (.num v)) = X := ⟨_, rfl⟩
 rw [hX]
 have zn := fun W => rnum_i v W v0 (by omega) (T := X) (by rw [← hX]; rfl)
 clear hX ok v1 e1 ep R
 obtain rfl | rfl | rfl | rfl | rfl : i = 0 ∨ i = 1 ∨ i = 2 ∨ i = 3 ∨ i = 4 := by omega
 all_goals
  clear hi
  simp only [Nat.reduceAdd] at q1
  go_enter Tryz.func52, Tryz.ntmps52
  go_upto_region 1 with (fail)
  try rw [hW]
  try rw [hB]
  clear hW
  go_wp2_with (first
   | (with_reducible refine wpList_field rfl 51 (.tmp 2) _ rfl B 0 _ rfl (by first | exact fieldM2 _ | exact fieldM3 _ | exact fieldM4 _ | exact fieldM5 _ | exact fieldM6 _) ?_)
   | (go_at_call 95; (with_reducible refine (zn _).mono ?_); rintro e w1 ⟨rfl, g1⟩))
  go_ret
  exact ⟨rfl, G.trans g1⟩
set_option maxHeartbeats 16000000 in
theorem rvalue_longs {w : World} {M : Array Value} {d : MsgD} (R : RepD w M d) (i : Nat) (hi : i < 2) : ValW w M ((i + 6 : Nat) : Int) (d.part (i + 5)) (i + 5) := by
 obtain ⟨v, e1, ep, wf⟩ := long_cell R i hi
 obtain ⟨W, B, hW, hB, G, h0⟩ := one_box w M
 have q1 := blk_cell h0 _ e1
 have v0 := (bounds_u64 wf).1
 have v1 := (bounds_u64 wf).2
 unfold ValW
 rw [partC_longs i hi, ep]
 obtain ⟨X, hX⟩ : ∃ X, (oneP nU).enc (.one (.num v)) = X := ⟨_, rfl⟩
 rw [hX]
 have zn := fun W => rnum_i v W v0 (by omega) (T := X) (by rw [← hX]; rfl)
 clear hX v0 v1 wf e1 ep R
 obtain rfl | rfl : i = 0 ∨ i = 1 := by omega
 all_goals
  clear hi
  simp only [Nat.reduceAdd] at q1
  go_enter Tryz.func52, Tryz.ntmps52
  go_upto_region 1 with (fail)
  try rw [hW]
  try rw [hB]
  clear hW
  go_wp2_with (first
   | (with_reducible refine wpList_field rfl 51 (.tmp 2) _ rfl B 0 _ rfl (by first | exact fieldM7 _ | exact fieldM8 _) ?_)
   | (go_at_call 95; (with_reducible refine (zn _).mono ?_); rintro e w1 ⟨rfl, g1⟩))
  go_ret
  exact ⟨rfl, G.trans g1⟩
set_option maxHeartbeats 16000000 in
theorem rvalue_data {w : World} {M : Array Value} {d : MsgD} (R : RepD w M d) : ValW w M 8 (d.part 7) 7 := by
 obtain ⟨W, B, hW, hB, G, h0⟩ := one_box w M
 have q1 := blk_cell h0 _ R.c9
 have ep : (partC topD 7).enc (d.part 7) = d.data := rfl
 unfold ValW
 rw [ep]
 clear R ep
 go_enter Tryz.func52, Tryz.ntmps52
 go_upto_region 1 with (fail)
 try rw [hW]
 try rw [hB]
 clear hW
 go_wp2_with (first
  | (with_reducible refine wpList_field rfl 51 (.tmp 2) _ rfl B 0 _ rfl (by first | exact fieldM9 _) ?_))
 go_ret
 exact ⟨rfl, G⟩
set_option maxHeartbeats 16000000 in
theorem rvalue_words {w : World} {M : Array Value} {d : MsgD} (R : RepD w M d) (ho : (partC topD 8).ok (d.part 8)) : ValW w M 9 (d.part 8) 8 := by
 obtain ⟨v9, A, n, cp, e9, r9⟩ := R.c10
 obtain rfl := r9.val
 obtain ⟨W, B, hW, hB, G, h0⟩ := one_box w M
 obtain ⟨u, e1, L2, e2, hlen, hok⟩ := ho
 injection e1 with e1
 subst e1
 injection e2 with e2
 subst e2
 obtain ⟨strs, hst⟩ : ∃ strs, d.words.map cArg.enc = strs := ⟨_, rfl⟩
 have hsl : strs.length = n := by rw [← hst, List.length_map, r9.len]
 have ep : (partC topD 8).enc (d.part 8) = encT strs := by rw [← hst]; rfl
 have hn := r9.len
 have n128 : n ≤ 128 := by rw [← hn]; exact hlen
 unfold ValW
 rw [ep]
 have sb : (bytsT strs).length ≤ 1280 := by
  have q := bytsT_capped strs 8 (fun s hs => by
   rw [← hst] at hs
   obtain ⟨x, hx, rfl⟩ := List.mem_map.1 hs
   exact cArg.small x (hok x hx))
  rw [hsl] at q
  omega
 obtain ⟨X, hX⟩ : ∃ X, encT strs = X := ⟨_, rfl⟩
 rw [hX]
 obtain ⟨rr, hrr⟩ : ∃ rr, okT strs = rr := ⟨_, rfl⟩
 have HZL := Lib.hid (fun (A : Option Addr) (c : Nat) (W : World) (h : StrsAt W A strs) => rlist_c A n c strs W h hsl (by omega) (by omega) hX hrr)
 have HOK := Lib.hid hok
 have HN := Lib.hid hn
 have HST := Lib.hid hst
 have HSL := Lib.hid hsl
 have HRow := Lib.hid (r9.row.on G)
 clear hX hrr ep sb hlen hok hn hst hsl R r9
 go_enter Tryz.func52, Tryz.ntmps52
 go_upto_region 1 with (fail)
 try rw [hW]
 try rw [hB]
 clear hW
 go_upto_region 23 with (fail)
 go_loopw [6, 7] (fun u i wr => ∃ j : Nat, j ≤ n ∧ i = .int .i64 (j : Int) ∧ ∃ P c, u = .slice P j c ∧ Hid (Own W wr [rowT 9 1 (.slice P j c) j (cellsS (strs.take j))])) (fun _ i _ => n - (intOf i).toNat)
 case atStart => exact ⟨0, by omega, by simp, none, 0, rfl, (Own.nil (Wider.refl _)).nils _ _⟩
 case round =>
  obtain ⟨j, hj, rfl, P, c, rfl, HO⟩ := hrel
  have gl := HO.out.wider
  have h1 := wide_blk h0 gl
  have kr := blk_cell h1 10 e9
  by_cases cj : j < n
  · have j0 : (0 : Int) ≤ (j : Int) := by omega
    have j1 : (j : Int) < (n : Int) := by omega
    obtain ⟨y, hy⟩ := next_some d.words j (by have := HN.out; omega)
    obtain ⟨x, rfl, hix⟩ := HOK.out y (List.mem_of_getElem? hy)
    have hx1 : 0 ≤ x := hix.1
    have hx2 : x ≤ 18446744073709551615 := hix.2
    obtain ⟨X2, hX2⟩ : ∃ X2, mkB (numB x.toNat) = X2 := ⟨_, rfl⟩
    have ex : strs[j]? = some X2 := by rw [← HST.out, List.getElem?_map, hy, ← hX2]; rfl
    have zp := rnum_i x wr hx1 (by omega) hX2
    have SN : Hid (cellsS (strs.take j) ++ [.string X2] = cellsS (strs.take (j + 1))) := by show _ = _; rw [take_next strs j X2 ex, cellsS_snoc]
    obtain ⟨i0, hi0, hz0, hz1, hz2⟩ := info_parts infoStr
    have S3 : Hid (j + 1 ≤ maxLen) := by show _ ≤ maxLen; unfold maxLen; omega
    have S4 : Hid ((j + 1) * 16 ≤ 140737488355328) := by show _ ≤ _; omega
    have hxr : (rowsK ksArg d.words)[j]? = some [.int .u64 x] := by
     unfold rowsK
     rw [List.getElem?_map, hy]; rfl
    cases A with
    | none => exact absurd (HRow.out.none_ rfl) (by intro e; rw [e] at hxr; simp at hxr)
    | some a =>
      have cx := (row_cell (HRow.out.on gl) hxr).1 _ rfl
      rw [Nat.mul_one] at cx
      clear hy ex hX2 hix hx1 hx2 hxr
      go_wp2_with (first
       | (with_reducible refine wpList_field rfl 51 (.tmp 2) _ rfl B 0 _ rfl (by first | exact fieldM10 _) ?_)
       | (at_builtin; refine wpList_append_thing rfl (.tmp 68) (.tmp 75) 152 rfl 9 i0 (.string ⟨#[]⟩) 1 16 Tryz.underlying152 hi0 hz0 hz1 hz2 rfl (by decide) (.slice P j c) j (cellsS (strs.take j)) rfl HA.out (some ⟨wq.heap.size, 0, none⟩) 1 1 [.string X2] rfl rfl (fun e => by cases e) (fun a e => by cases e; exact LI.out.1) LI.out.2 S3.out S4.out rfl SN.out ?_; intro B3 c3 w5 H5)
       | (go_at_call 95; ((with_reducible refine zp.mono ?_); rintro e wq ⟨rfl, gq⟩; have HA := Lib.hid ((HO.out.quiet gq).quiet ((Wider.refl wq).alloc (.cells #[.string X2] 9))); have LI := Lib.hid (lies1 wq (.string X2) 9 rfl))))
      go_roundw
      case rel => exact ⟨j + 1, by omega, by go_num, B3, c3, rfl, H5⟩
      case measure => simp [intOf]; omega
  · obtain rfl : j = n := by omega
    have i1 : ¬ (j : Int) < (j : Int) := by omega
    have ho := HO.out.head
    rw [List.take_of_length_le (by rw [HSL.out]; exact Nat.le_refl _)] at ho
    obtain ⟨Bq, cq, eq, hs2, _⟩ := strsAt_own ho
    injection eq with eq1 eq2 eq3
    subst eq1
    have zl := HZL.out P c wr hs2
    clear ho hs2 HO eq2 eq3
    go_wp2_with (first
     | (with_reducible refine wpList_field rfl 51 (.tmp 2) _ rfl B 0 _ rfl (by first | exact fieldM10 _) ?_)
     | (go_at_call 96; ((with_reducible refine zl.mono ?_); rintro e w7 ⟨rfl, g7⟩)))
    go_ret
    exact ⟨rfl, (G.trans gl).trans g7⟩
def offV : Nat → Nat
 | 0 => 11 | 1 => 20 | 2 => 25 | 3 => 30 | 4 => 41 | 5 => 43 | 6 => 47 | 7 => 50 | _ => 52
def putF : Nat → Nat
 | 0 => 97
 | 1 => 98
 | 2 => 99
 | 3 => 100
 | 4 => 101
 | 5 => 102
 | 6 => 103
 | _ => 104
theorem put_ok {β : Type} {cs : List (Cod β)} {vs : List β} (h : okG cs vs) : PutG cs vs (encG cs vs) 0 := .inl ⟨h, rfl, rfl⟩
theorem part_put {w : World} {M : Array Value} {d : MsgD} (R : RepD w M d) (k : Nat) (hk : k < 8) (ho : (partC topD (k + 9)).ok (d.part (k + 9))) {c : Array Value} (hc : M.extract (offV k) (offV (k + 1)) = c) {X : ByteArray} (hX : (partC topD (k + 9)).enc (d.part (k + 9)) = X) :
 ∀ W, Wider w W → Calls Tryz.prog (putF k) #[.agg c] W fun e w' => e = .returned (.tuple #[.string X, .int .i64 0]) ∧ Wider W w' := by
 subst hc hX
 obtain ⟨vs, e, ok⟩ := ho
 intro W g
 match k, hk with
 | 0, _ => injection e with e; subst e; exact (R.A.r0.on g).oput (put_ok ok)
 | 1, _ => injection e with e; subst e; exact (R.A.r1.on g).oput (put_ok ok)
 | 2, _ => injection e with e; subst e; exact (R.A.r2.on g).oput (put_ok ok)
 | 3, _ => injection e with e; subst e; exact (R.A.r3.on g).oput (put_ok ok)
 | 4, _ => injection e with e; subst e; exact (R.A.r4.on g).oput (put_ok ok)
 | 5, _ => injection e with e; subst e; exact (R.A.r5.on g).oput (put_ok ok)
 | 6, _ => injection e with e; subst e; exact (R.A.r6.on g).oput (put_ok ok)
 | 7, _ => injection e with e; subst e; exact (R.A.r7.on g).oput (put_ok ok)
set_option maxHeartbeats 16000000 in
theorem rvalue_objs {w : World} {M : Array Value} {d : MsgD} (R : RepD w M d) (k : Nat) (hk : k < 7) (ho : (partC topD (k + 9)).ok (d.part (k + 9))) : ValW w M ((k + 10 : Nat) : Int) (d.part (k + 9)) (k + 9) := by
 obtain ⟨W, B, hW, hB, G, h0⟩ := one_box w M
 have sM := R.size
 obtain ⟨c, hc⟩ : ∃ c, M.extract (offV k) (offV (k + 1)) = c := ⟨_, rfl⟩
 obtain ⟨X, hX⟩ : ∃ X, (partC topD (k + 9)).enc (d.part (k + 9)) = X := ⟨_, rfl⟩
 unfold ValW
 rw [hX]
 have zp := part_put R k (by omega) ho hc hX
 clear R ho hX
 obtain rfl | rfl | rfl | rfl | rfl | rfl | rfl : k = 0 ∨ k = 1 ∨ k = 2 ∨ k = 3 ∨ k = 4 ∨ k = 5 ∨ k = 6 := by omega
 all_goals
  clear hk
  simp only [offV, putF, Nat.reduceAdd] at hc zp
  go_enter Tryz.func52, Tryz.ntmps52
  go_upto_region 1 with (fail)
  try rw [hW]
  try rw [hB]
  clear hW
  go_wp2_with (first
   | (with_reducible refine wpList_field rfl 51 (.tmp 2) _ rfl B 0 _ rfl (by first | exact fieldM11 _ | exact fieldM12 _ | exact fieldM13 _ | exact fieldM14 _ | exact fieldM15 _ | exact fieldM16 _ | exact fieldM17 _) ?_)
   | (with_reducible refine wpList_load_part rfl 32 _ rfl B 11 9 20 rfl rfl _ h0 (by rw [sM]; decide) Tryz.underlying32 rfl (by kernel_rfl) ?_; rw [hc])
   | (with_reducible refine wpList_load_part rfl 34 _ rfl B 20 5 25 rfl rfl _ h0 (by rw [sM]; decide) Tryz.underlying34 rfl (by kernel_rfl) ?_; rw [hc])
   | (with_reducible refine wpList_load_part rfl 37 _ rfl B 25 5 30 rfl rfl _ h0 (by rw [sM]; decide) Tryz.underlying37 rfl (by kernel_rfl) ?_; rw [hc])
   | (with_reducible refine wpList_load_part rfl 39 _ rfl B 30 11 41 rfl rfl _ h0 (by rw [sM]; decide) Tryz.underlying39 rfl (by kernel_rfl) ?_; rw [hc])
   | (with_reducible refine wpList_load_part rfl 42 _ rfl B 41 2 43 rfl rfl _ h0 (by rw [sM]; decide) Tryz.underlying42 rfl (by kernel_rfl) ?_; rw [hc])
   | (with_reducible refine wpList_load_part rfl 45 _ rfl B 43 4 47 rfl rfl _ h0 (by rw [sM]; decide) Tryz.underlying45 rfl (by kernel_rfl) ?_; rw [hc])
   | (with_reducible refine wpList_load_part rfl 47 _ rfl B 47 3 50 rfl rfl _ h0 (by rw [sM]; decide) Tryz.underlying47 rfl (by kernel_rfl) ?_; rw [hc])
   | (go_at_call 97; ((with_reducible refine (zp _ G).mono ?_); rintro e w1 ⟨rfl, g1⟩))
   | (go_at_call 98; ((with_reducible refine (zp _ G).mono ?_); rintro e w1 ⟨rfl, g1⟩))
   | (go_at_call 99; ((with_reducible refine (zp _ G).mono ?_); rintro e w1 ⟨rfl, g1⟩))
   | (go_at_call 100; ((with_reducible refine (zp _ G).mono ?_); rintro e w1 ⟨rfl, g1⟩))
   | (go_at_call 101; ((with_reducible refine (zp _ G).mono ?_); rintro e w1 ⟨rfl, g1⟩))
   | (go_at_call 102; ((with_reducible refine (zp _ G).mono ?_); rintro e w1 ⟨rfl, g1⟩))
   | (go_at_call 103; ((with_reducible refine (zp _ G).mono ?_); rintro e w1 ⟨rfl, g1⟩)))
  go_ret
  exact ⟨rfl, G.trans g1⟩
set_option maxHeartbeats 16000000 in
theorem rvalue_rest {w : World} {M : Array Value} {d : MsgD} (R : RepD w M d) (ho : (partC topD 16).ok (d.part 16)) : ValW w M 17 (d.part 16) 16 := by
 obtain ⟨W, B, hW, hB, G, h0⟩ := one_box w M
 have sM := R.size
 obtain ⟨c, hc⟩ : ∃ c, M.extract (offV 7) (offV (7 + 1)) = c := ⟨_, rfl⟩
 obtain ⟨X, hX⟩ : ∃ X, (partC topD (7 + 9)).enc (d.part (7 + 9)) = X := ⟨_, rfl⟩
 unfold ValW
 show Calls Tryz.prog 52 #[.agg M, .int .u8 17] w fun x w' => x = .returned (.string ((partC topD (7 + 9)).enc (d.part (7 + 9)))) ∧ Wider w w'
 rw [hX]
 have zp := part_put R 7 (by omega) ho hc hX
 clear R ho hX
 simp only [offV, putF, Nat.reduceAdd] at hc zp
 go_enter Tryz.func52, Tryz.ntmps52
 go_upto_region 1 with (fail)
 try rw [hW]
 try rw [hB]
 clear hW
 go_wp2_with (first
  | (with_reducible refine wpList_field rfl 51 (.tmp 2) _ rfl B 0 _ rfl (by first | exact fieldM18 _) ?_)
  | (with_reducible refine wpList_load_part rfl 49 _ rfl B 50 2 52 rfl rfl _ h0 (by rw [sM]; decide) Tryz.underlying49 rfl (by kernel_rfl) ?_; rw [hc])
  | (go_at_call 104; ((with_reducible refine (zp _ G).mono ?_); rintro e w1 ⟨rfl, g1⟩)))
 go_ret
 exact ⟨rfl, G.trans g1⟩
theorem rvalue_c {w : World} {M : Array Value} {d : MsgD} (R : RepD w M d) (t : Nat) (h1 : 1 ≤ t) (h2 : t ≤ 17) (ho : (partC topD (t - 1)).ok (d.part (t - 1))) : ValW w M (t : Int) (d.part (t - 1)) (t - 1) := by
 by_cases a1 : t ≤ 5
 · obtain ⟨i, rfl⟩ : ∃ i, t = i + 1 := ⟨t - 1, by omega⟩
   exact rvalue_nums R i (by omega) ho
 by_cases a2 : t ≤ 7
 · obtain ⟨i, rfl⟩ : ∃ i, t = i + 6 := ⟨t - 6, by omega⟩
   exact rvalue_longs R i (by omega)
 by_cases a3 : t = 8
 · subst a3; exact rvalue_data R
 by_cases a4 : t = 9
 · subst a4; exact rvalue_words R ho
 by_cases a5 : t ≤ 16
 · obtain ⟨k, rfl⟩ : ∃ k, t = k + 10 := ⟨t - 10, by omega⟩
   exact rvalue_objs R k (by omega) ho
 · obtain rfl : t = 17 := by omega
   exact rvalue_rest R ho
end Go.Proofs.YtoopdhgmdjienaaGreatDoor
namespace Go.Proofs.YtoopdhgmdjienaaGreatDoor
set_option linter.unusedVariables false
set_option maxRecDepth 20000
abbrev noP : PartN := .one (.num 0)
def pickP (l : List Nat) (ps : List PartN) : List PartN := (List.range 17).map fun i => if i + 1 ∈ l then ps.getD i noP else zeroP.getD i noP
theorem pickP_length (l : List Nat) (ps : List PartN) : (pickP l ps).length = 17 := by simp [pickP]
theorem pickP_at (l : List Nat) (ps : List PartN) (i : Nat) (hi : i < 17) : (pickP l ps)[i]? = some (if i + 1 ∈ l then ps.getD i noP else zeroP.getD i noP) := by simp [pickP, hi]
theorem zeroP_length : zeroP.length = 17 := by simp [zeroP]
theorem pickP_nil (ps : List PartN) : pickP [] ps = zeroP := by
 apply List.ext_getElem?
 intro i
 by_cases h : i < 17
 · rw [pickP_at _ _ _ h, if_neg (by simp), List.getD_eq_getElem?_getD, List.getElem?_eq_getElem (by rw [zeroP_length]; exact h)]; rfl
 · rw [List.getElem?_eq_none (by rw [pickP_length]; omega), List.getElem?_eq_none (by rw [zeroP_length]; omega)]
theorem pickP_snoc (l : List Nat) (ps : List PartN) (i : Nat) (hi : i < 17) : (pickP l ps).set i (ps.getD i noP) = pickP (l ++ [i + 1]) ps := by
 apply List.ext_getElem?
 intro j
 by_cases h : j < 17
 · rw [List.getElem?_set, pickP_at _ _ _ h, pickP_at _ _ _ h, pickP_length]
   by_cases e : i = j
   · subst e
     rw [if_pos rfl, if_pos hi, if_pos (by simp)]
   · rw [if_neg e]
     by_cases m : j + 1 ∈ l
     · rw [if_pos m, if_pos (by simp [m])]
     · rw [if_neg m, if_neg (by simp [m]; omega)]
 · rw [List.getElem?_eq_none (by rw [List.length_set, pickP_length]; omega), List.getElem?_eq_none (by rw [pickP_length]; omega)]
theorem zeroP_at (i : Nat) (hi : i < 17) : zeroP.getD i noP = (partC topD i).zero := by
 rw [partC_zero, List.getD_eq_getElem?_getD]
 have : zeroP[i]? = some (partC 65535 i).zero := by simp [zeroP, hi]
 rw [this]; rfl
def MayW (k : Nat) (ps : List PartN) : Prop := (1 ≤ k ∧ k ≤ 46) ∧ ps = pickP (hasL k) ps ∧ ∀ i, i < 17 → (partC topD i).ok (ps.getD i noP)
theorem may_iff {k : Nat} {ps : List PartN} (hl : ps.length = 17) : MayM k ps ↔ MayW k ps := by
 have at_ : ∀ i, i < 17 → ps[i]? = some (ps.getD i noP) := fun i hi => by
  rw [List.getD_eq_getElem?_getD, List.getElem?_eq_getElem (by omega)]; rfl
 constructor
 · rintro ⟨hk, h⟩
   have hz : ∀ i, i < 17 → i + 1 ∉ hasL k → ps.getD i noP = (partC topD i).zero := fun i hi hn => by
    have c := csM_at topD k i hi
    rw [if_neg hn] at c
    exact okG_at _ _ i _ _ h c (at_ i hi)
   refine ⟨hk, ?_, fun i hi => ?_⟩
   · apply List.ext_getElem?
     intro i
     by_cases hi : i < 17
     · rw [pickP_at _ _ _ hi, at_ i hi]
       by_cases m : i + 1 ∈ hasL k
       · rw [if_pos m]
       · rw [if_neg m, hz i hi m, zeroP_at i hi]
     · rw [List.getElem?_eq_none (by omega), List.getElem?_eq_none (by rw [pickP_length]; omega)]
   · by_cases m : i + 1 ∈ hasL k
     · have c := csM_at topD k i hi
       rw [if_pos m] at c
       exact okG_at _ _ i _ _ h c (at_ i hi)
     · rw [hz i hi m]; exact (partC topD i).ok_zero
 · rintro ⟨hk, he, ho⟩
   refine ⟨hk, (okG_iff _ _).2 ⟨by rw [csM_length, hl], fun i c v e1 e2 => ?_⟩⟩
   have hi : i < 17 := by have := (List.getElem?_eq_some_iff.1 e2).1; omega
   rw [at_ i hi] at e2
   injection e2 with e2
   subst e2
   rw [csM_at _ _ _ hi] at e1
   injection e1 with e1
   subst e1
   by_cases m : i + 1 ∈ hasL k
   · rw [if_pos m]; exact ho i hi
   · rw [if_neg m]
     show ps.getD i noP = (partC topD i).zero
     rw [← zeroP_at i hi]
     have q := congrArg (fun l => l[i]?) he
     have q2 : ps[i]? = (pickP (hasL k) ps)[i]? := q
     rw [at_ i hi, pickP_at _ _ _ hi, if_neg m] at q2
     clear q
     have q := q2
     injection q
def attO (ps : List PartN) (t : Nat) : List AtN := if ((partC topD (t - 1)).enc (ps.getD (t - 1) noP)).size = 0 then [] else [⟨t, (partC topD (t - 1)).enc (ps.getD (t - 1) noP)⟩]
theorem hasL_ranges : ((List.range 256).all fun k => (((List.range 17).map (· + 1)).filter fun t => decide (t ∈ hasL k)) == hasL k) = true := by kernel_rfl
theorem hasL_sorted {k : Nat} (hk : k < 256) : ((List.range 17).map (· + 1)).filter (fun t => decide (t ∈ hasL k)) = hasL k := by
 have h := List.all_eq_true.1 hasL_ranges k (List.mem_range.2 hk)
 exact beq_iff_eq.1 h
def attX {β : Type} (k : Nat) : Option (Cod β) → Option β → List AtN
 | some c, some v => if (c.enc v).size = 0 then [] else [⟨k, c.enc v⟩]
 | _, _ => []
theorem attrsG_flat {β : Type} (z : β) : ∀ (cs : List (Cod β)) (vs : List β) (k : Nat), vs.length = cs.length → attrsG k cs vs = (List.range cs.length).flatMap fun i => attX (k + i) cs[i]? vs[i]?
 | [], vs, k, h => by cases vs with | nil => rfl | cons => cases h
 | c :: cs, [], k, h => by cases h
 | c :: cs, v :: vs, k, h => by
   have ih := attrsG_flat z cs vs (k + 1) (by simpa using h)
   rw [List.length_cons, List.range_succ_eq_map, List.flatMap_cons, List.flatMap_map]
   unfold attrsG
   have e : (List.range cs.length).flatMap (fun i => attX (k + i.succ) (c :: cs)[i.succ]? (v :: vs)[i.succ]?) = attrsG (k + 1) cs vs := by
    rw [ih]
    congr 1
    funext i
    simp only [List.getElem?_cons_succ, Nat.succ_eq_add_one]
    rw [show k + (i + 1) = k + 1 + i by omega]
   rw [e]
   simp only [List.getElem?_cons_zero, Nat.add_zero, attX]
   split
   · rfl
   · rfl
theorem attrs_types {k : Nat} (hk : k < 256) {ps : List PartN} (hl : ps.length = 17) : attrsG 1 (csM topD k) ps = (hasL k).flatMap (attO ps) := by
 rw [attrsG_flat noP _ _ _ (by rw [hl, csM_length]), csM_length]
 have e : (fun i => attX (1 + i) (csM topD k)[i]? ps[i]?) = (fun i => if i < 17 then (if decide (i + 1 ∈ hasL k) = true then attO ps (i + 1) else []) else []) := by
  funext i
  by_cases hi : i < 17
  · rw [csM_at _ _ _ hi, if_pos hi]
    have : ps[i]? = some (ps.getD i noP) := by
     rw [List.getD_eq_getElem?_getD, List.getElem?_eq_getElem (by omega)]; rfl
    rw [this]
    simp only [decide_eq_true_eq]
    by_cases m : i + 1 ∈ hasL k
    · rw [if_pos m, if_pos m]
      unfold attO attX
      rw [Nat.add_sub_cancel, Nat.add_comm 1 i]
    · rw [if_neg m, if_neg m]
      unfold attX
      exact if_pos rfl
  · rw [if_neg hi, List.getElem?_eq_none (by rw [csM_length]; omega)]; rfl
 rw [e]
 have g : ∀ (l : List Nat), (∀ i ∈ l, i < 17) → l.flatMap (fun i => if i < 17 then (if decide (i + 1 ∈ hasL k) = true then attO ps (i + 1) else []) else []) = ((l.map (· + 1)).filter (fun t => decide (t ∈ hasL k))).flatMap (attO ps) := by
  intro l
  induction l with
  | nil => intro _; rfl
  | cons i l ih =>
    intro h
    rw [List.flatMap_cons, List.map_cons, List.filter_cons, if_pos (h i (by simp)), ih (fun j hj => h j (by simp [hj]))]
    by_cases m : decide (i + 1 ∈ hasL k) = true
    · rw [if_pos m, if_pos m, List.flatMap_cons]
    · rw [if_neg m, if_neg m]; rfl
 rw [g _ (fun i hi => List.mem_range.1 hi), hasL_sorted hk]
end Go.Proofs.YtoopdhgmdjienaaGreatDoor
