/- Texts that belong together, one behind the other: ORepNode ORepField ORepTable ORepEntry ORepBlock ORepGroup ORepMeter ORepRegs OMsgR. -/
import Derived.Test.YtilpimilbjcifaaGreatDoorOTopG
import Derived.Test.YtilpimilbjcifaaGreatDoorORdG
import Derived.Test.YtilpimilbjcifaaGreatDoorOTopB

/- An object of kind Node as laws hold it, and package obj's calls on it. -/
namespace Go.Proofs.YtilpimilbjcifaaGreatDoor
set_option linter.unusedVariables false
set_option maxRecDepth 20000
open Go.ChangeShapes Go.WideShapes Go.ChangeAt Go.RowKit Go.Joins
open Go.ChangeMaps (open_string shut_string)
/-- The cells c are an object of this kind, whose values are vs. -/
def RepNode (w : World) (c : Array Value) (vs : List ValN) : Prop :=
  ∃ (v0 v1 v2 v3 v4 v5 v6 v8 : Int) (A : Option Addr) (n cap : Nat) (L : List (List Int)), c = #[.int .i64 v0, .int .i64 v1, .int .i64 v2, .int .i64 v3, .int .i64 v4, .int .i64 v5, .int .i64 v6, .slice A n cap, .int .i64 v8] ∧ vs = [ValN.num v0, ValN.num v1, ValN.num v2, ValN.num v3, ValN.num v4, ValN.num v5, ValN.num v6, ValN.num v8, ValN.lst L] ∧ (Lit.int .i64 v0).wf = true ∧ (Lit.int .i64 v1).wf = true ∧ (Lit.int .i64 v2).wf = true ∧ (Lit.int .i64 v3).wf = true ∧ (Lit.int .i64 v4).wf = true ∧ (Lit.int .i64 v5).wf = true ∧ (Lit.int .i64 v6).wf = true ∧ (Lit.int .i64 v8).wf = true ∧ RowAt w A 2 (rowsK ksArm L) ∧ L.length = n ∧ n < 1000000 ∧ ∀ x ∈ L, wfK ksArm x
theorem RepNode.on {W w : World} {c : Array Value} {vs : List ValN} (h : RepNode W c vs) (g : Wider W w) : RepNode w c vs := by
  obtain ⟨v0, v1, v2, v3, v4, v5, v6, v8, A, n, cap, L, rfl, rfl, w0, w1, w2, w3, w4, w5, w6, w8, hA, hn, hn9, hL⟩ := h
  exact ⟨v0, v1, v2, v3, v4, v5, v6, v8, A, n, cap, L, rfl, rfl, w0, w1, w2, w3, w4, w5, w6, w8, hA.on g, hn, hn9, hL⟩
theorem RepNode.size {w : World} {c : Array Value} {vs : List ValN} (h : RepNode w c vs) : c.size = 9 := by
  obtain ⟨v0, v1, v2, v3, v4, v5, v6, v8, A, n, cap, L, rfl, rfl, w0, w1, w2, w3, w4, w5, w6, w8, hA, hn, hn9, hL⟩ := h
  rfl
theorem RepNode.put {w : World} {c : Array Value} {vs : List ValN} (h : RepNode w c vs) {T : ByteArray} {r : Nat} (hr : PutG csNode vs T r) :
    Calls Tryz.prog 112 #[.agg c] w fun e w' => e = .returned (.tuple #[.string T, .int .i64 (r : Int)]) ∧ Wider w w' := by
  obtain ⟨v0, v1, v2, v3, v4, v5, v6, v8, A, n, cap, L, rfl, rfl, w0, w1, w2, w3, w4, w5, w6, w8, hA, hn, hn9, hL⟩ := h
  exact putNode_c w (w0 := w0) (w1 := w1) (w2 := w2) (w3 := w3) (w4 := w4) (w5 := w5) (w6 := w6) (w8 := w8) (hA := hA) (hn := hn) (hn9 := hn9) (hL := hL) hr
theorem repNode_read (s : ByteArray) (w : World) (hs : s.size < 1000000) {vs : List ValN} {r : Nat} (hr : decG csNode s.data.toList = (vs, r)) :
    Calls Tryz.prog 83 #[.string s] w fun e w' => ∃ c, e = .returned (.tuple #[.agg c, .int .i64 (r : Int)]) ∧ Wider w w' ∧ ∀ W, Keeps w.heap.size w' W → RepNode W c vs := by
  have ok := okG_dec csNode hr
  match vs, ok with
  | [a0, a1, a2, a3, a4, a5, a6, a7, a8], ok =>
    obtain ⟨⟨v0, rfl, q0⟩, ⟨v1, rfl, q1⟩, ⟨v2, rfl, q2⟩, ⟨v3, rfl, q3⟩, ⟨v4, rfl, q4⟩, ⟨v5, rfl, q5⟩, ⟨v6, rfl, q6⟩, ⟨v8, rfl, q8⟩, ⟨L, rfl, hL1, hL2⟩, _⟩ := ok
    refine (readNode_c s w hs hr).mono ?_
    rintro e w1 ⟨A, n, cap, rfl, g, hn, hO⟩
    exact ⟨_, rfl, g, fun W kW => ⟨v0, v1, v2, v3, v4, v5, v6, v8, A, n, cap, L, rfl, rfl, wf_i64 (by have q := q0; exact ⟨q.1, Int.le_trans q.2 (by decide)⟩), wf_i64 (by have q := q1; exact ⟨q.1, Int.le_trans q.2 (by decide)⟩), wf_i64 (by have q := q2; exact ⟨q.1, Int.le_trans q.2 (by decide)⟩), wf_i64 (by have q := q3; exact ⟨q.1, Int.le_trans q.2 (by decide)⟩), wf_i64 (by have q := q4; exact ⟨q.1, Int.le_trans q.2 (by decide)⟩), wf_i64 (by have q := q5; exact ⟨q.1, Int.le_trans q.2 (by decide)⟩), wf_i64 (by have q := q6; exact ⟨q.1, Int.le_trans q.2 (by decide)⟩), wf_i64 (by have q := q8; exact ⟨q.1, Int.le_trans q.2 (by decide)⟩), rowK_own (ks := ksArm) rfl (by decide) hn (fun x hx => lenArm x (hL2 x hx)) (ownsRow_heap hO fun i hi => kW.2 i (hO.lt i (by simpa using hi)).1 (hO.lt i (by simpa using hi)).2), hn, by omega, fun x hx => wfArm (hL2 x hx)⟩⟩
end Go.Proofs.YtilpimilbjcifaaGreatDoor

/- An object of kind Field as laws hold it, and package obj's calls on it. -/
namespace Go.Proofs.YtilpimilbjcifaaGreatDoor
set_option linter.unusedVariables false
set_option maxRecDepth 20000
open Go.ChangeShapes Go.WideShapes Go.ChangeAt Go.RowKit Go.Joins
open Go.ChangeMaps (open_string shut_string)
/-- The cells c are an object of this kind, whose values are vs. -/
def RepField (w : World) (c : Array Value) (vs : List ValN) : Prop :=
  ∃ (v0 v1 v2 v3 v4 : Int), c = #[.int .i64 v0, .int .u8 v1, .int .i64 v2, .int .i64 v3, .int .i64 v4] ∧ vs = [ValN.num v0, ValN.num v1, ValN.num v2, ValN.num v3, ValN.num v4] ∧ (Lit.int .i64 v0).wf = true ∧ (Lit.int .u8 v1).wf = true ∧ (Lit.int .i64 v2).wf = true ∧ (Lit.int .i64 v3).wf = true ∧ (Lit.int .i64 v4).wf = true
theorem RepField.on {W w : World} {c : Array Value} {vs : List ValN} (h : RepField W c vs) (g : Wider W w) : RepField w c vs := by
  obtain ⟨v0, v1, v2, v3, v4, rfl, rfl, w0, w1, w2, w3, w4⟩ := h
  exact ⟨v0, v1, v2, v3, v4, rfl, rfl, w0, w1, w2, w3, w4⟩
theorem RepField.size {w : World} {c : Array Value} {vs : List ValN} (h : RepField w c vs) : c.size = 5 := by
  obtain ⟨v0, v1, v2, v3, v4, rfl, rfl, w0, w1, w2, w3, w4⟩ := h
  rfl
theorem RepField.put {w : World} {c : Array Value} {vs : List ValN} (h : RepField w c vs) {T : ByteArray} {r : Nat} (hr : PutG csField vs T r) :
    Calls Tryz.prog 113 #[.agg c] w fun e w' => e = .returned (.tuple #[.string T, .int .i64 (r : Int)]) ∧ Wider w w' := by
  obtain ⟨v0, v1, v2, v3, v4, rfl, rfl, w0, w1, w2, w3, w4⟩ := h
  exact putField_c w (w0 := w0) (w1 := w1) (w2 := w2) (w3 := w3) (w4 := w4) hr
theorem repField_read (s : ByteArray) (w : World) (hs : s.size < 1000000) {vs : List ValN} {r : Nat} (hr : decG csField s.data.toList = (vs, r)) :
    Calls Tryz.prog 84 #[.string s] w fun e w' => ∃ c, e = .returned (.tuple #[.agg c, .int .i64 (r : Int)]) ∧ Wider w w' ∧ ∀ W, Keeps w.heap.size w' W → RepField W c vs := by
  have ok := okG_dec csField hr
  match vs, ok with
  | [a0, a1, a2, a3, a4], ok =>
    obtain ⟨⟨v0, rfl, q0⟩, ⟨v1, rfl, q1⟩, ⟨v2, rfl, q2⟩, ⟨v3, rfl, q3⟩, ⟨v4, rfl, q4⟩, _⟩ := ok
    refine (readField_c s w hs hr).mono ?_
    rintro e w1 ⟨rfl, g⟩
    exact ⟨_, rfl, g, fun W kW => ⟨v0, v1, v2, v3, v4, rfl, rfl, wf_i64 (by have q := q0; exact ⟨q.1, Int.le_trans q.2 (by decide)⟩), wf_u8 (by have q := q1; exact ⟨q.1, Int.le_trans q.2 (by decide)⟩), wf_i64 (by have q := q2; exact ⟨q.1, Int.le_trans q.2 (by decide)⟩), wf_i64 (by have q := q3; exact ⟨q.1, Int.le_trans q.2 (by decide)⟩), wf_i64 (by have q := q4; exact ⟨q.1, Int.le_trans q.2 (by decide)⟩)⟩⟩
end Go.Proofs.YtilpimilbjcifaaGreatDoor

/- An object of kind Table as laws hold it, and package obj's calls on it. -/
namespace Go.Proofs.YtilpimilbjcifaaGreatDoor
set_option linter.unusedVariables false
set_option maxRecDepth 20000
open Go.ChangeShapes Go.WideShapes Go.ChangeAt Go.RowKit Go.Joins
open Go.ChangeMaps (open_string shut_string)
/-- The cells c are an object of this kind, whose values are vs. -/
def RepTable (w : World) (c : Array Value) (vs : List ValN) : Prop :=
  ∃ (v0 v1 v3 v4 : Int) (A : Option Addr) (n cap : Nat) (L : List (List Int)), c = #[.int .i64 v0, .int .u8 v1, .slice A n cap, .int .i64 v3, .int .i64 v4] ∧ vs = [ValN.num v0, ValN.num v1, ValN.lst L, ValN.num v3, ValN.num v4] ∧ (Lit.int .i64 v0).wf = true ∧ (Lit.int .u8 v1).wf = true ∧ (Lit.int .i64 v3).wf = true ∧ (Lit.int .i64 v4).wf = true ∧ RowAt w A 1 (rowsK ksKey L) ∧ L.length = n ∧ n < 1000000 ∧ ∀ x ∈ L, wfK ksKey x
theorem RepTable.on {W w : World} {c : Array Value} {vs : List ValN} (h : RepTable W c vs) (g : Wider W w) : RepTable w c vs := by
  obtain ⟨v0, v1, v3, v4, A, n, cap, L, rfl, rfl, w0, w1, w3, w4, hA, hn, hn9, hL⟩ := h
  exact ⟨v0, v1, v3, v4, A, n, cap, L, rfl, rfl, w0, w1, w3, w4, hA.on g, hn, hn9, hL⟩
theorem RepTable.size {w : World} {c : Array Value} {vs : List ValN} (h : RepTable w c vs) : c.size = 5 := by
  obtain ⟨v0, v1, v3, v4, A, n, cap, L, rfl, rfl, w0, w1, w3, w4, hA, hn, hn9, hL⟩ := h
  rfl
theorem RepTable.put {w : World} {c : Array Value} {vs : List ValN} (h : RepTable w c vs) {T : ByteArray} {r : Nat} (hr : PutG csTable vs T r) :
    Calls Tryz.prog 114 #[.agg c] w fun e w' => e = .returned (.tuple #[.string T, .int .i64 (r : Int)]) ∧ Wider w w' := by
  obtain ⟨v0, v1, v3, v4, A, n, cap, L, rfl, rfl, w0, w1, w3, w4, hA, hn, hn9, hL⟩ := h
  exact putTable_c w (w0 := w0) (w1 := w1) (w3 := w3) (w4 := w4) (hA := hA) (hn := hn) (hn9 := hn9) (hL := hL) hr
theorem repTable_read (s : ByteArray) (w : World) (hs : s.size < 1000000) {vs : List ValN} {r : Nat} (hr : decG csTable s.data.toList = (vs, r)) :
    Calls Tryz.prog 85 #[.string s] w fun e w' => ∃ c, e = .returned (.tuple #[.agg c, .int .i64 (r : Int)]) ∧ Wider w w' ∧ ∀ W, Keeps w.heap.size w' W → RepTable W c vs := by
  have ok := okG_dec csTable hr
  match vs, ok with
  | [a0, a1, a2, a3, a4], ok =>
    obtain ⟨⟨v0, rfl, q0⟩, ⟨v1, rfl, q1⟩, ⟨L, rfl, hL1, hL2⟩, ⟨v3, rfl, q3⟩, ⟨v4, rfl, q4⟩, _⟩ := ok
    refine (readTable_c s w hs hr).mono ?_
    rintro e w1 ⟨A, n, cap, rfl, g, hn, hO⟩
    exact ⟨_, rfl, g, fun W kW => ⟨v0, v1, v3, v4, A, n, cap, L, rfl, rfl, wf_i64 (by have q := q0; exact ⟨q.1, Int.le_trans q.2 (by decide)⟩), wf_u8 (by have q := q1; exact ⟨q.1, Int.le_trans q.2 (by decide)⟩), wf_i64 (by have q := q3; exact ⟨q.1, Int.le_trans q.2 (by decide)⟩), wf_i64 (by have q := q4; exact ⟨q.1, Int.le_trans q.2 (by decide)⟩), rowK_own (ks := ksKey) rfl (by decide) hn (fun x hx => lenKey x (hL2 x hx)) (ownsRow_heap hO fun i hi => kW.2 i (hO.lt i (by simpa using hi)).1 (hO.lt i (by simpa using hi)).2), hn, by omega, fun x hx => wfKey (hL2 x hx)⟩⟩
end Go.Proofs.YtilpimilbjcifaaGreatDoor

/- An object of kind Entry as laws hold it, and package obj's calls on it. -/
namespace Go.Proofs.YtilpimilbjcifaaGreatDoor
set_option linter.unusedVariables false
set_option maxRecDepth 20000
open Go.ChangeShapes Go.WideShapes Go.ChangeAt Go.RowKit Go.Joins
open Go.ChangeMaps (open_string shut_string)
/-- The cells c are an object of this kind, whose values are vs. -/
def RepEntry (w : World) (c : Array Value) (vs : List ValN) : Prop :=
  ∃ (v0 v3 v4 v5 v7 v8 v9 : Int) (v1 v2 : ByteArray) (v10 : Bool) (A : Option Addr) (n cap : Nat) (L : List (List Int)), c = #[.int .i64 v0, .string v1, .string v2, .int .i64 v3, .int .i64 v4, .int .i64 v5, .slice A n cap, .int .i64 v7, .int .i64 v8, .int .u64 v9, .bool v10] ∧ vs = [ValN.num v0, ValN.txt v1, ValN.txt v2, ValN.num v3, ValN.num v4, ValN.num v5, ValN.lst L, ValN.num v7, ValN.num v8, ValN.num v9, ValN.num (if v10 = true then 1 else 0)] ∧ (Lit.int .i64 v0).wf = true ∧ v1.size ≤ maxLen ∧ v2.size ≤ maxLen ∧ (Lit.int .i64 v3).wf = true ∧ (Lit.int .i64 v4).wf = true ∧ (Lit.int .i64 v5).wf = true ∧ (Lit.int .i64 v7).wf = true ∧ (Lit.int .i64 v8).wf = true ∧ (Lit.int .u64 v9).wf = true ∧ RowAt w A 1 (rowsK ksArg L) ∧ L.length = n ∧ n < 1000000 ∧ ∀ x ∈ L, wfK ksArg x
theorem RepEntry.on {W w : World} {c : Array Value} {vs : List ValN} (h : RepEntry W c vs) (g : Wider W w) : RepEntry w c vs := by
  obtain ⟨v0, v3, v4, v5, v7, v8, v9, v1, v2, v10, A, n, cap, L, rfl, rfl, w0, w1, w2, w3, w4, w5, w7, w8, w9, hA, hn, hn9, hL⟩ := h
  exact ⟨v0, v3, v4, v5, v7, v8, v9, v1, v2, v10, A, n, cap, L, rfl, rfl, w0, w1, w2, w3, w4, w5, w7, w8, w9, hA.on g, hn, hn9, hL⟩
theorem RepEntry.size {w : World} {c : Array Value} {vs : List ValN} (h : RepEntry w c vs) : c.size = 11 := by
  obtain ⟨v0, v3, v4, v5, v7, v8, v9, v1, v2, v10, A, n, cap, L, rfl, rfl, w0, w1, w2, w3, w4, w5, w7, w8, w9, hA, hn, hn9, hL⟩ := h
  rfl
theorem RepEntry.put {w : World} {c : Array Value} {vs : List ValN} (h : RepEntry w c vs) {T : ByteArray} {r : Nat} (hr : PutG csEntry vs T r) :
    Calls Tryz.prog 115 #[.agg c] w fun e w' => e = .returned (.tuple #[.string T, .int .i64 (r : Int)]) ∧ Wider w w' := by
  obtain ⟨v0, v3, v4, v5, v7, v8, v9, v1, v2, v10, A, n, cap, L, rfl, rfl, w0, w1, w2, w3, w4, w5, w7, w8, w9, hA, hn, hn9, hL⟩ := h
  exact putEntry_c w (w0 := w0) (w1 := w1) (w2 := w2) (w3 := w3) (w4 := w4) (w5 := w5) (w7 := w7) (w8 := w8) (w9 := w9) (hA := hA) (hn := hn) (hn9 := hn9) (hL := hL) hr
theorem repEntry_read (s : ByteArray) (w : World) (hs : s.size < 1000000) {vs : List ValN} {r : Nat} (hr : decG csEntry s.data.toList = (vs, r)) :
    Calls Tryz.prog 86 #[.string s] w fun e w' => ∃ c, e = .returned (.tuple #[.agg c, .int .i64 (r : Int)]) ∧ Wider w w' ∧ ∀ W, Keeps w.heap.size w' W → RepEntry W c vs := by
  have ok := okG_dec csEntry hr
  match vs, ok with
  | [a0, a1, a2, a3, a4, a5, a6, a7, a8, a9, a10], ok =>
    obtain ⟨⟨v0, rfl, q0⟩, ⟨v1, rfl, q1⟩, ⟨v2, rfl, q2⟩, ⟨v3, rfl, q3⟩, ⟨v4, rfl, q4⟩, ⟨v5, rfl, q5⟩, ⟨L, rfl, hL1, hL2⟩, ⟨v7, rfl, q7⟩, ⟨v8, rfl, q8⟩, ⟨v9, rfl, q9⟩, ⟨v10, rfl, q10⟩, _⟩ := ok
    refine (readEntry_c s w hs hr).mono ?_
    rintro e w1 ⟨A, n, cap, rfl, g, hn, hO⟩
    have hb : (if (v10 == 1) = true then (1 : Int) else 0) = v10 := by
      have q : 0 ≤ v10 ∧ v10 ≤ 1 := q10
      by_cases e : v10 = 1
      · subst e; rfl
      · have e0 : v10 = 0 := by omega
        subst e0; rfl
    exact ⟨_, rfl, g, fun W kW => ⟨v0, v3, v4, v5, v7, v8, v9, v1, v2, (v10 == 1), A, n, cap, L, rfl, by rw [hb], wf_i64 (by have q := q0; exact ⟨q.1, Int.le_trans q.2 (by decide)⟩), by have q : v1.size ≤ 32 := q1; unfold maxLen; omega, by have q : v2.size ≤ 32 := q2; unfold maxLen; omega, wf_i64 (by have q := q3; exact ⟨q.1, Int.le_trans q.2 (by decide)⟩), wf_i64 (by have q := q4; exact ⟨q.1, Int.le_trans q.2 (by decide)⟩), wf_i64 (by have q := q5; exact ⟨q.1, Int.le_trans q.2 (by decide)⟩), wf_i64 (by have q := q7; exact ⟨q.1, Int.le_trans q.2 (by decide)⟩), wf_i64 (by have q := q8; exact ⟨q.1, Int.le_trans q.2 (by decide)⟩), wf_u64 (by have q := q9; exact ⟨q.1, Int.le_trans q.2 (by decide)⟩), rowK_own (ks := ksArg) rfl (by decide) hn (fun x hx => lenArg x (hL2 x hx)) (ownsRow_heap hO fun i hi => kW.2 i (hO.lt i (by simpa using hi)).1 (hO.lt i (by simpa using hi)).2), hn, by omega, fun x hx => wfArg (hL2 x hx)⟩⟩
end Go.Proofs.YtilpimilbjcifaaGreatDoor

/- An object of kind Block as laws hold it, and package obj's calls on it. -/
namespace Go.Proofs.YtilpimilbjcifaaGreatDoor
set_option linter.unusedVariables false
set_option maxRecDepth 20000
open Go.ChangeShapes Go.WideShapes Go.ChangeAt Go.RowKit Go.Joins
open Go.ChangeMaps (open_string shut_string)
/-- The cells c are an object of this kind, whose values are vs. -/
def RepBlock (w : World) (c : Array Value) (vs : List ValN) : Prop :=
  ∃ (v0 : Int) (A : Option Addr) (n cap : Nat) (L : List (List Int)), c = #[.int .i64 v0, .slice A n cap] ∧ vs = [ValN.num v0, ValN.lst L] ∧ (Lit.int .i64 v0).wf = true ∧ RowAt w A 7 (rowsK ksInstr L) ∧ L.length = n ∧ n < 1000000 ∧ ∀ x ∈ L, wfK ksInstr x
theorem RepBlock.on {W w : World} {c : Array Value} {vs : List ValN} (h : RepBlock W c vs) (g : Wider W w) : RepBlock w c vs := by
  obtain ⟨v0, A, n, cap, L, rfl, rfl, w0, hA, hn, hn9, hL⟩ := h
  exact ⟨v0, A, n, cap, L, rfl, rfl, w0, hA.on g, hn, hn9, hL⟩
theorem RepBlock.size {w : World} {c : Array Value} {vs : List ValN} (h : RepBlock w c vs) : c.size = 2 := by
  obtain ⟨v0, A, n, cap, L, rfl, rfl, w0, hA, hn, hn9, hL⟩ := h
  rfl
theorem RepBlock.put {w : World} {c : Array Value} {vs : List ValN} (h : RepBlock w c vs) {T : ByteArray} {r : Nat} (hr : PutG csBlock vs T r) :
    Calls Tryz.prog 116 #[.agg c] w fun e w' => e = .returned (.tuple #[.string T, .int .i64 (r : Int)]) ∧ Wider w w' := by
  obtain ⟨v0, A, n, cap, L, rfl, rfl, w0, hA, hn, hn9, hL⟩ := h
  exact putBlock_c w (w0 := w0) (hA := hA) (hn := hn) (hn9 := hn9) (hL := hL) hr
theorem repBlock_read (s : ByteArray) (w : World) (hs : s.size < 1000000) {vs : List ValN} {r : Nat} (hr : decG csBlock s.data.toList = (vs, r)) :
    Calls Tryz.prog 87 #[.string s] w fun e w' => ∃ c, e = .returned (.tuple #[.agg c, .int .i64 (r : Int)]) ∧ Wider w w' ∧ ∀ W, Keeps w.heap.size w' W → RepBlock W c vs := by
  have ok := okG_dec csBlock hr
  match vs, ok with
  | [a0, a1], ok =>
    obtain ⟨⟨v0, rfl, q0⟩, ⟨L, rfl, hL1, hL2⟩, _⟩ := ok
    refine (readBlock_c s w hs hr).mono ?_
    rintro e w1 ⟨A, n, cap, rfl, g, hn, hO⟩
    exact ⟨_, rfl, g, fun W kW => ⟨v0, A, n, cap, L, rfl, rfl, wf_i64 (by have q := q0; exact ⟨q.1, Int.le_trans q.2 (by decide)⟩), rowK_own (ks := ksInstr) rfl (by decide) hn (fun x hx => lenInstr x (hL2 x hx)) (ownsRow_heap hO fun i hi => kW.2 i (hO.lt i (by simpa using hi)).1 (hO.lt i (by simpa using hi)).2), hn, by omega, fun x hx => wfInstr (hL2 x hx)⟩⟩
end Go.Proofs.YtilpimilbjcifaaGreatDoor

/- An object of kind Group as laws hold it, and package obj's calls on it. -/
namespace Go.Proofs.YtilpimilbjcifaaGreatDoor
set_option linter.unusedVariables false
set_option maxRecDepth 20000
open Go.ChangeShapes Go.WideShapes Go.ChangeAt Go.RowKit Go.Joins
open Go.ChangeMaps (open_string shut_string)
/-- The cells c are an object of this kind, whose values are vs. -/
def RepGroup (w : World) (c : Array Value) (vs : List ValN) : Prop :=
  ∃ (v0 v1 v2 : Int) (A : Option Addr) (n cap : Nat) (L : List (List Int)), c = #[.int .i64 v0, .int .u8 v1, .int .i64 v2, .slice A n cap] ∧ vs = [ValN.num v0, ValN.num v1, ValN.num v2, ValN.lst L] ∧ (Lit.int .i64 v0).wf = true ∧ (Lit.int .u8 v1).wf = true ∧ (Lit.int .i64 v2).wf = true ∧ RowAt w A 2 (rowsK ksBucket L) ∧ L.length = n ∧ n < 1000000 ∧ ∀ x ∈ L, wfK ksBucket x
theorem RepGroup.on {W w : World} {c : Array Value} {vs : List ValN} (h : RepGroup W c vs) (g : Wider W w) : RepGroup w c vs := by
  obtain ⟨v0, v1, v2, A, n, cap, L, rfl, rfl, w0, w1, w2, hA, hn, hn9, hL⟩ := h
  exact ⟨v0, v1, v2, A, n, cap, L, rfl, rfl, w0, w1, w2, hA.on g, hn, hn9, hL⟩
theorem RepGroup.size {w : World} {c : Array Value} {vs : List ValN} (h : RepGroup w c vs) : c.size = 4 := by
  obtain ⟨v0, v1, v2, A, n, cap, L, rfl, rfl, w0, w1, w2, hA, hn, hn9, hL⟩ := h
  rfl
theorem RepGroup.put {w : World} {c : Array Value} {vs : List ValN} (h : RepGroup w c vs) {T : ByteArray} {r : Nat} (hr : PutG csGroup vs T r) :
    Calls Tryz.prog 117 #[.agg c] w fun e w' => e = .returned (.tuple #[.string T, .int .i64 (r : Int)]) ∧ Wider w w' := by
  obtain ⟨v0, v1, v2, A, n, cap, L, rfl, rfl, w0, w1, w2, hA, hn, hn9, hL⟩ := h
  exact putGroup_c w (w0 := w0) (w1 := w1) (w2 := w2) (hA := hA) (hn := hn) (hn9 := hn9) (hL := hL) hr
theorem repGroup_read (s : ByteArray) (w : World) (hs : s.size < 1000000) {vs : List ValN} {r : Nat} (hr : decG csGroup s.data.toList = (vs, r)) :
    Calls Tryz.prog 88 #[.string s] w fun e w' => ∃ c, e = .returned (.tuple #[.agg c, .int .i64 (r : Int)]) ∧ Wider w w' ∧ ∀ W, Keeps w.heap.size w' W → RepGroup W c vs := by
  have ok := okG_dec csGroup hr
  match vs, ok with
  | [a0, a1, a2, a3], ok =>
    obtain ⟨⟨v0, rfl, q0⟩, ⟨v1, rfl, q1⟩, ⟨v2, rfl, q2⟩, ⟨L, rfl, hL1, hL2⟩, _⟩ := ok
    refine (readGroup_c s w hs hr).mono ?_
    rintro e w1 ⟨A, n, cap, rfl, g, hn, hO⟩
    exact ⟨_, rfl, g, fun W kW => ⟨v0, v1, v2, A, n, cap, L, rfl, rfl, wf_i64 (by have q := q0; exact ⟨q.1, Int.le_trans q.2 (by decide)⟩), wf_u8 (by have q := q1; exact ⟨q.1, Int.le_trans q.2 (by decide)⟩), wf_i64 (by have q := q2; exact ⟨q.1, Int.le_trans q.2 (by decide)⟩), rowK_own (ks := ksBucket) rfl (by decide) hn (fun x hx => lenBucket x (hL2 x hx)) (ownsRow_heap hO fun i hi => kW.2 i (hO.lt i (by simpa using hi)).1 (hO.lt i (by simpa using hi)).2), hn, by omega, fun x hx => wfBucket (hL2 x hx)⟩⟩
end Go.Proofs.YtilpimilbjcifaaGreatDoor

/- An object of kind Meter as laws hold it, and package obj's calls on it. -/
namespace Go.Proofs.YtilpimilbjcifaaGreatDoor
set_option linter.unusedVariables false
set_option maxRecDepth 20000
open Go.ChangeShapes Go.WideShapes Go.ChangeAt Go.RowKit Go.Joins
open Go.ChangeMaps (open_string shut_string)
/-- The cells c are an object of this kind, whose values are vs. -/
def RepMeter (w : World) (c : Array Value) (vs : List ValN) : Prop :=
  ∃ (v0 v1 v2 : Int), c = #[.int .i64 v0, .int .i64 v1, .int .i64 v2] ∧ vs = [ValN.num v0, ValN.num v1, ValN.num v2] ∧ (Lit.int .i64 v0).wf = true ∧ (Lit.int .i64 v1).wf = true ∧ (Lit.int .i64 v2).wf = true
theorem RepMeter.on {W w : World} {c : Array Value} {vs : List ValN} (h : RepMeter W c vs) (g : Wider W w) : RepMeter w c vs := by
  obtain ⟨v0, v1, v2, rfl, rfl, w0, w1, w2⟩ := h
  exact ⟨v0, v1, v2, rfl, rfl, w0, w1, w2⟩
theorem RepMeter.size {w : World} {c : Array Value} {vs : List ValN} (h : RepMeter w c vs) : c.size = 3 := by
  obtain ⟨v0, v1, v2, rfl, rfl, w0, w1, w2⟩ := h
  rfl
theorem RepMeter.put {w : World} {c : Array Value} {vs : List ValN} (h : RepMeter w c vs) {T : ByteArray} {r : Nat} (hr : PutG csMeter vs T r) :
    Calls Tryz.prog 118 #[.agg c] w fun e w' => e = .returned (.tuple #[.string T, .int .i64 (r : Int)]) ∧ Wider w w' := by
  obtain ⟨v0, v1, v2, rfl, rfl, w0, w1, w2⟩ := h
  exact putMeter_c w (w0 := w0) (w1 := w1) (w2 := w2) hr
theorem repMeter_read (s : ByteArray) (w : World) (hs : s.size < 1000000) {vs : List ValN} {r : Nat} (hr : decG csMeter s.data.toList = (vs, r)) :
    Calls Tryz.prog 89 #[.string s] w fun e w' => ∃ c, e = .returned (.tuple #[.agg c, .int .i64 (r : Int)]) ∧ Wider w w' ∧ ∀ W, Keeps w.heap.size w' W → RepMeter W c vs := by
  have ok := okG_dec csMeter hr
  match vs, ok with
  | [a0, a1, a2], ok =>
    obtain ⟨⟨v0, rfl, q0⟩, ⟨v1, rfl, q1⟩, ⟨v2, rfl, q2⟩, _⟩ := ok
    refine (readMeter_c s w hs hr).mono ?_
    rintro e w1 ⟨rfl, g⟩
    exact ⟨_, rfl, g, fun W kW => ⟨v0, v1, v2, rfl, rfl, wf_i64 (by have q := q0; exact ⟨q.1, Int.le_trans q.2 (by decide)⟩), wf_i64 (by have q := q1; exact ⟨q.1, Int.le_trans q.2 (by decide)⟩), wf_i64 (by have q := q2; exact ⟨q.1, Int.le_trans q.2 (by decide)⟩)⟩⟩
end Go.Proofs.YtilpimilbjcifaaGreatDoor

/- An object of kind Regs as laws hold it, and package obj's calls on it. -/
namespace Go.Proofs.YtilpimilbjcifaaGreatDoor
set_option linter.unusedVariables false
set_option maxRecDepth 20000
open Go.ChangeShapes Go.WideShapes Go.ChangeAt Go.RowKit Go.Joins
open Go.ChangeMaps (open_string shut_string)
/-- The cells c are an object of this kind, whose values are vs. -/
def RepRegs (w : World) (c : Array Value) (vs : List ValN) : Prop :=
  ∃ (v0 v1 : Int), c = #[.int .i64 v0, .int .i64 v1] ∧ vs = [ValN.num v0, ValN.num v1] ∧ (Lit.int .i64 v0).wf = true ∧ (Lit.int .i64 v1).wf = true
theorem RepRegs.on {W w : World} {c : Array Value} {vs : List ValN} (h : RepRegs W c vs) (g : Wider W w) : RepRegs w c vs := by
  obtain ⟨v0, v1, rfl, rfl, w0, w1⟩ := h
  exact ⟨v0, v1, rfl, rfl, w0, w1⟩
theorem RepRegs.size {w : World} {c : Array Value} {vs : List ValN} (h : RepRegs w c vs) : c.size = 2 := by
  obtain ⟨v0, v1, rfl, rfl, w0, w1⟩ := h
  rfl
theorem RepRegs.put {w : World} {c : Array Value} {vs : List ValN} (h : RepRegs w c vs) {T : ByteArray} {r : Nat} (hr : PutG csRegs vs T r) :
    Calls Tryz.prog 119 #[.agg c] w fun e w' => e = .returned (.tuple #[.string T, .int .i64 (r : Int)]) ∧ Wider w w' := by
  obtain ⟨v0, v1, rfl, rfl, w0, w1⟩ := h
  exact putRegs_c w (w0 := w0) (w1 := w1) hr
theorem repRegs_read (s : ByteArray) (w : World) (hs : s.size < 1000000) {vs : List ValN} {r : Nat} (hr : decG csRegs s.data.toList = (vs, r)) :
    Calls Tryz.prog 90 #[.string s] w fun e w' => ∃ c, e = .returned (.tuple #[.agg c, .int .i64 (r : Int)]) ∧ Wider w w' ∧ ∀ W, Keeps w.heap.size w' W → RepRegs W c vs := by
  have ok := okG_dec csRegs hr
  match vs, ok with
  | [a0, a1], ok =>
    obtain ⟨⟨v0, rfl, q0⟩, ⟨v1, rfl, q1⟩, _⟩ := ok
    refine (readRegs_c s w hs hr).mono ?_
    rintro e w1 ⟨rfl, g⟩
    exact ⟨_, rfl, g, fun W kW => ⟨v0, v1, rfl, rfl, wf_i64 (by have q := q0; exact ⟨q.1, Int.le_trans q.2 (by decide)⟩), wf_i64 (by have q := q1; exact ⟨q.1, Int.le_trans q.2 (by decide)⟩)⟩⟩
end Go.Proofs.YtilpimilbjcifaaGreatDoor

/- Messages as laws hold them: their cells, and the values of each kind of object. -/
namespace Go.Proofs.YtilpimilbjcifaaGreatDoor
set_option linter.unusedVariables false
set_option maxRecDepth 20000
open Go.ChangeShapes Go.WideShapes Go.ChangeAt Go.RowKit Go.Joins
open Go.ChangeMaps (open_string shut_string)

/-- The message of which all is 0. -/
abbrev zM : Array Value := #[.int .u8 0, .int .u32 0, .int .i64 0, .int .i64 0, .int .i64 0, .int .i64 0, .int .i64 0, .int .u64 0, .int .u64 0, .string ⟨#[]⟩, .slice none 0 0, .int .i64 0, .int .i64 0, .int .i64 0, .int .i64 0, .int .i64 0, .int .i64 0, .int .i64 0, .slice none 0 0, .int .i64 0, .int .i64 0, .int .u8 0, .int .i64 0, .int .i64 0, .int .i64 0, .int .i64 0, .int .u8 0, .slice none 0 0, .int .i64 0, .int .i64 0, .int .i64 0, .string ⟨#[]⟩, .string ⟨#[]⟩, .int .i64 0, .int .i64 0, .int .i64 0, .slice none 0 0, .int .i64 0, .int .i64 0, .int .u64 0, .bool false, .int .i64 0, .slice none 0 0, .int .i64 0, .int .u8 0, .int .i64 0, .slice none 0 0, .int .i64 0, .int .i64 0, .int .i64 0, .int .i64 0, .int .i64 0]
/-- The cells M are a message, the values of whose objects V tells. -/
def RepM (w : World) (M : Array Value) (V : Nat → List ValN) : Prop :=
  ∃ (a0 a1 a2 a3 a4 a5 a6 a7 a8 a9 a10 a11 a12 a13 a14 a15 a16 a17 a18 a19 a20 a21 a22 a23 a24 a25 a26 a27 a28 a29 a30 a31 a32 a33 a34 a35 a36 a37 a38 a39 a40 a41 a42 a43 a44 a45 a46 a47 a48 a49 a50 a51 : Value), M = #[a0, a1, a2, a3, a4, a5, a6, a7, a8, a9, a10, a11, a12, a13, a14, a15, a16, a17, a18, a19, a20, a21, a22, a23, a24, a25, a26, a27, a28, a29, a30, a31, a32, a33, a34, a35, a36, a37, a38, a39, a40, a41, a42, a43, a44, a45, a46, a47, a48, a49, a50, a51] ∧ RepNode w #[a11, a12, a13, a14, a15, a16, a17, a18, a19] (V 0) ∧ RepField w #[a20, a21, a22, a23, a24] (V 1) ∧ RepTable w #[a25, a26, a27, a28, a29] (V 2) ∧ RepEntry w #[a30, a31, a32, a33, a34, a35, a36, a37, a38, a39, a40] (V 3) ∧ RepBlock w #[a41, a42] (V 4) ∧ RepGroup w #[a43, a44, a45, a46] (V 5) ∧ RepMeter w #[a47, a48, a49] (V 6) ∧ RepRegs w #[a50, a51] (V 7)
theorem RepM.on {W w : World} {M : Array Value} {V : Nat → List ValN} (h : RepM W M V) (g : Wider W w) : RepM w M V := by
  obtain ⟨a0, a1, a2, a3, a4, a5, a6, a7, a8, a9, a10, a11, a12, a13, a14, a15, a16, a17, a18, a19, a20, a21, a22, a23, a24, a25, a26, a27, a28, a29, a30, a31, a32, a33, a34, a35, a36, a37, a38, a39, a40, a41, a42, a43, a44, a45, a46, a47, a48, a49, a50, a51, rfl, R0, R1, R2, R3, R4, R5, R6, R7⟩ := h
  exact ⟨a0, a1, a2, a3, a4, a5, a6, a7, a8, a9, a10, a11, a12, a13, a14, a15, a16, a17, a18, a19, a20, a21, a22, a23, a24, a25, a26, a27, a28, a29, a30, a31, a32, a33, a34, a35, a36, a37, a38, a39, a40, a41, a42, a43, a44, a45, a46, a47, a48, a49, a50, a51, rfl, R0.on g, R1.on g, R2.on g, R3.on g, R4.on g, R5.on g, R6.on g, R7.on g⟩
theorem zeroNode (w : World) : RepNode w #[.int .i64 0, .int .i64 0, .int .i64 0, .int .i64 0, .int .i64 0, .int .i64 0, .int .i64 0, .slice none 0 0, .int .i64 0] (zeroG csNode) := ⟨0, 0, 0, 0, 0, 0, 0, 0, none, 0, 0, [], rfl, rfl, rfl, rfl, rfl, rfl, rfl, rfl, rfl, rfl, ⟨fun _ => rfl, fun a e => by cases e⟩, rfl, by decide, fun x hx => by cases hx⟩
theorem zeroField (w : World) : RepField w #[.int .i64 0, .int .u8 0, .int .i64 0, .int .i64 0, .int .i64 0] (zeroG csField) := ⟨0, 0, 0, 0, 0, rfl, rfl, rfl, rfl, rfl, rfl, rfl⟩
theorem zeroTable (w : World) : RepTable w #[.int .i64 0, .int .u8 0, .slice none 0 0, .int .i64 0, .int .i64 0] (zeroG csTable) := ⟨0, 0, 0, 0, none, 0, 0, [], rfl, rfl, rfl, rfl, rfl, rfl, ⟨fun _ => rfl, fun a e => by cases e⟩, rfl, by decide, fun x hx => by cases hx⟩
theorem zeroEntry (w : World) : RepEntry w #[.int .i64 0, .string ⟨#[]⟩, .string ⟨#[]⟩, .int .i64 0, .int .i64 0, .int .i64 0, .slice none 0 0, .int .i64 0, .int .i64 0, .int .u64 0, .bool false] (zeroG csEntry) := ⟨0, 0, 0, 0, 0, 0, 0, ⟨#[]⟩, ⟨#[]⟩, false, none, 0, 0, [], rfl, rfl, rfl, Nat.zero_le _, Nat.zero_le _, rfl, rfl, rfl, rfl, rfl, rfl, ⟨fun _ => rfl, fun a e => by cases e⟩, rfl, by decide, fun x hx => by cases hx⟩
theorem zeroBlock (w : World) : RepBlock w #[.int .i64 0, .slice none 0 0] (zeroG csBlock) := ⟨0, none, 0, 0, [], rfl, rfl, rfl, ⟨fun _ => rfl, fun a e => by cases e⟩, rfl, by decide, fun x hx => by cases hx⟩
theorem zeroGroup (w : World) : RepGroup w #[.int .i64 0, .int .u8 0, .int .i64 0, .slice none 0 0] (zeroG csGroup) := ⟨0, 0, 0, none, 0, 0, [], rfl, rfl, rfl, rfl, rfl, ⟨fun _ => rfl, fun a e => by cases e⟩, rfl, by decide, fun x hx => by cases hx⟩
theorem zeroMeter (w : World) : RepMeter w #[.int .i64 0, .int .i64 0, .int .i64 0] (zeroG csMeter) := ⟨0, 0, 0, rfl, rfl, rfl, rfl, rfl⟩
theorem zeroRegs (w : World) : RepRegs w #[.int .i64 0, .int .i64 0] (zeroG csRegs) := ⟨0, 0, rfl, rfl, rfl, rfl⟩
theorem run_storeVar_part {P : Program} (w : World) (g o : Nat) (t ty : TypeId) (old cells : Array Value) (hg : w.heap[g]? = some (.cells old t (0, 0))) (hi : (P.info? ty).map (·.size) = some cells.size)
    (ho : o + cells.size ≤ old.size) (h1 : cells.all (·.oneCell') = true) :
    (storeVar ty ⟨g, o, none⟩ (.agg cells)).run P w = .ok () (w.setRow g (old.toList.take o ++ cells.toList ++ old.toList.drop (o + cells.size)).toArray) := by
  have := run_storeCells_at (P := P) g o t cells.toList 0 old w hg (by simp; omega) (fun v hv => (Array.all_eq_true_iff_forall_mem.1 h1) v (by simpa using hv))
  cases hq : P.info? ty with
  | none => simp [hq] at hi
  | some i =>
    have hs : cells.size = i.size := by simp [hq] at hi; omega
    simp only [Nat.add_zero, Array.length_toList] at this
    simp [storeVar, sizeOf, typeInfo, hq, Value.cells, hs]
    rw [← hs]
    simpa using this
theorem wpList_store_part {P : Program} {ops : Array Oper} {rest : List Oper} {op : Oper} {a : Act} {w : World} {Q : Exit → Act → World → Prop} (hgd : op.guard = none) (ty : TypeId) (x y : Operand) (hop : op.op = .store ty x y)
    (g o : Nat) (cells : Array Value) (hx : a.eval x = .pointer (some ⟨g, o, none⟩)) (hy : a.eval y = .agg cells)
    (t : TypeId) (old : Array Value) (hg : w.heap[g]? = some (.cells old t (0, 0))) (hi : (P.info? ty).map (·.size) = some cells.size)
    (ho : o + cells.size ≤ old.size) (h1 : cells.all (·.oneCell') = true) {new : Array Value} (hn : (old.toList.take o ++ cells.toList ++ old.toList.drop (o + cells.size)).toArray = new)
    (h : wpList P ops Q rest (a.put op.dst undef) (w.setRow g new)) : wpList P ops Q (op :: rest) a w := by
  subst hn
  refine wpList_plain hgd fun _ hK => ?_
  have hh := hK _ _ h
  unfold Oper.wp execOp
  simp only [hop, hx, hy, Instr.storeAt, Instr.sureAddr, Sem.run_bind, Sem.run_pure, Result.andThen_ok, run_storeVar_part w g o t ty old cells hg hi ho h1]
  exact hh

theorem RepNode.one {w : World} {c : Array Value} {vs : List ValN} (h : RepNode w c vs) : c.all (·.oneCell') = true := by
  unfold RepNode at h
  obtain ⟨_, _, _, _, _, _, _, _, _, _, _, _, rfl, _⟩ := h
  simp [Value.oneCell']
theorem RepField.one {w : World} {c : Array Value} {vs : List ValN} (h : RepField w c vs) : c.all (·.oneCell') = true := by
  unfold RepField at h
  obtain ⟨_, _, _, _, _, rfl, _⟩ := h
  simp [Value.oneCell']
theorem RepTable.one {w : World} {c : Array Value} {vs : List ValN} (h : RepTable w c vs) : c.all (·.oneCell') = true := by
  unfold RepTable at h
  obtain ⟨_, _, _, _, _, _, _, _, rfl, _⟩ := h
  simp [Value.oneCell']
theorem RepEntry.one {w : World} {c : Array Value} {vs : List ValN} (h : RepEntry w c vs) : c.all (·.oneCell') = true := by
  unfold RepEntry at h
  obtain ⟨_, _, _, _, _, _, _, _, _, _, _, _, _, _, rfl, _⟩ := h
  simp [Value.oneCell']
theorem RepBlock.one {w : World} {c : Array Value} {vs : List ValN} (h : RepBlock w c vs) : c.all (·.oneCell') = true := by
  unfold RepBlock at h
  obtain ⟨_, _, _, _, _, rfl, _⟩ := h
  simp [Value.oneCell']
theorem RepGroup.one {w : World} {c : Array Value} {vs : List ValN} (h : RepGroup w c vs) : c.all (·.oneCell') = true := by
  unfold RepGroup at h
  obtain ⟨_, _, _, _, _, _, _, rfl, _⟩ := h
  simp [Value.oneCell']
theorem RepMeter.one {w : World} {c : Array Value} {vs : List ValN} (h : RepMeter w c vs) : c.all (·.oneCell') = true := by
  unfold RepMeter at h
  obtain ⟨_, _, _, rfl, _⟩ := h
  simp [Value.oneCell']
theorem RepRegs.one {w : World} {c : Array Value} {vs : List ValN} (h : RepRegs w c vs) : c.all (·.oneCell') = true := by
  unfold RepRegs at h
  obtain ⟨_, _, rfl, _⟩ := h
  simp [Value.oneCell']
theorem arr2 {c : Array Value} (h : c.size = 2) : ∃ c0 c1, c = #[c0, c1] := by
  obtain ⟨l⟩ := c
  match l, h with
  | [c0, c1], _ => exact ⟨c0, c1, rfl⟩
theorem arr3 {c : Array Value} (h : c.size = 3) : ∃ c0 c1 c2, c = #[c0, c1, c2] := by
  obtain ⟨l⟩ := c
  match l, h with
  | [c0, c1, c2], _ => exact ⟨c0, c1, c2, rfl⟩
theorem arr4 {c : Array Value} (h : c.size = 4) : ∃ c0 c1 c2 c3, c = #[c0, c1, c2, c3] := by
  obtain ⟨l⟩ := c
  match l, h with
  | [c0, c1, c2, c3], _ => exact ⟨c0, c1, c2, c3, rfl⟩
theorem arr5 {c : Array Value} (h : c.size = 5) : ∃ c0 c1 c2 c3 c4, c = #[c0, c1, c2, c3, c4] := by
  obtain ⟨l⟩ := c
  match l, h with
  | [c0, c1, c2, c3, c4], _ => exact ⟨c0, c1, c2, c3, c4, rfl⟩
theorem arr9 {c : Array Value} (h : c.size = 9) : ∃ c0 c1 c2 c3 c4 c5 c6 c7 c8, c = #[c0, c1, c2, c3, c4, c5, c6, c7, c8] := by
  obtain ⟨l⟩ := c
  match l, h with
  | [c0, c1, c2, c3, c4, c5, c6, c7, c8], _ => exact ⟨c0, c1, c2, c3, c4, c5, c6, c7, c8, rfl⟩
theorem arr11 {c : Array Value} (h : c.size = 11) : ∃ c0 c1 c2 c3 c4 c5 c6 c7 c8 c9 c10, c = #[c0, c1, c2, c3, c4, c5, c6, c7, c8, c9, c10] := by
  obtain ⟨l⟩ := c
  match l, h with
  | [c0, c1, c2, c3, c4, c5, c6, c7, c8, c9, c10], _ => exact ⟨c0, c1, c2, c3, c4, c5, c6, c7, c8, c9, c10, rfl⟩
end Go.Proofs.YtilpimilbjcifaaGreatDoor
