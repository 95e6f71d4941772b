/- Texts that belong together, one behind the other: PSet PWordsG PGet PGetHead. -/
import Derived.Test.YtilpimilbjcifaaGreatDoorPG2
import Derived.Test.YtilpimilbjcifaaGreatDoorOLit
import Derived.Test.YtilpimilbjcifaaGreatDoorPG3
import Derived.Test.YtilpimilbjcifaaGreatDoorPG1
import Derived.StillTailTactics

/- Messages with one part set anew. No program is in sight. -/
namespace Go.Proofs.YtilpimilbjcifaaGreatDoor
set_option linter.unusedVariables false
set_option maxRecDepth 20000
open Go.ChangeShapes Go.WideShapes Go.ChangeAt Go.RowKit Go.Joins
open Go.ChangeMaps (open_string shut_string)

/-- A message, whatever is done to blocks below b0. -/
def RepK (b0 : Nat) (w : World) (M : Array Value) (d : MsgD) : Prop := ∀ W, Keeps b0 w W → RepD W M d
theorem RepK.on {b0 : Nat} {W w : World} {M : Array Value} {d : MsgD} (h : RepK b0 W M d) (g : Keeps b0 W w) : RepK b0 w M d := fun W2 k => h W2 (g.trans k)
theorem RepK.here {b0 : Nat} {w : World} {M : Array Value} {d : MsgD} (h : RepK b0 w M d) : RepD w M d := h w (Keeps.refl _ _)
/-- One part of a message. -/
def MsgD.setN (d : MsgD) : Nat → PartN → MsgD
  | 0, .one (.num v) => { d with id := v }
  | 1, .one (.num v) => { d with idx := v }
  | 2, .one (.num v) => { d with code := v }
  | 3, .one (.num v) => { d with port := v }
  | 4, .one (.num v) => { d with tag := v }
  | 5, .one (.num v) => { d with n := v }
  | 6, .one (.num v) => { d with m := v }
  | 7, .one (.txt v) => { d with data := v }
  | 8, .one (.lst v) => { d with words := v }
  | i + 9, .obj vs => { d with V := fun j => if j = i then vs else d.V j }
  | _, _ => d
theorem RepA.head {w : World} {M N : Array Value} {V : Nat → List ValN} (h : RepA w M V) (hs : N.size = M.size) (he : ∀ j, 11 ≤ j → N[j]? = M[j]?) : RepA w N V := by
  have sM := h.size
  have ex : ∀ x y, 11 ≤ x → y ≤ 52 → N.extract x y = M.extract x y := fun x y hx hy => extract_same hs (by omega) fun j h1 _ => he j (by omega)
  exact ⟨by omega, by rw [ex 11 20 (by decide) (by decide)]; exact h.r0, by rw [ex 20 25 (by decide) (by decide)]; exact h.r1, by rw [ex 25 30 (by decide) (by decide)]; exact h.r2, by rw [ex 30 41 (by decide) (by decide)]; exact h.r3, by rw [ex 41 43 (by decide) (by decide)]; exact h.r4, by rw [ex 43 47 (by decide) (by decide)]; exact h.r5, by rw [ex 47 50 (by decide) (by decide)]; exact h.r6, by rw [ex 50 52 (by decide) (by decide)]; exact h.r7⟩
theorem RepA.setNode {w : World} {M : Array Value} {V : Nat → List ValN} (R : RepA w M V) {c : Array Value} {vs : List ValN} (h : RepNode w c vs) : RepA w (setPart M 11 c) (fun j => if j = 0 then vs else V j) := by
  have sM := R.size
  have hs : c.size = 9 := h.size
  have hl : 11 + c.size ≤ M.size := by rw [hs, sM]; decide
  exact ⟨by rw [setPart_size hl]; exact sM, by rw [setPart_self (by rw [hs]) hl]; exact h, by rw [setPart_apart hl (by rw [sM]; decide) (by rw [hs]; decide)]; exact R.r1, by rw [setPart_apart hl (by rw [sM]; decide) (by rw [hs]; decide)]; exact R.r2, by rw [setPart_apart hl (by rw [sM]; decide) (by rw [hs]; decide)]; exact R.r3, by rw [setPart_apart hl (by rw [sM]; decide) (by rw [hs]; decide)]; exact R.r4, by rw [setPart_apart hl (by rw [sM]; decide) (by rw [hs]; decide)]; exact R.r5, by rw [setPart_apart hl (by rw [sM]; decide) (by rw [hs]; decide)]; exact R.r6, by rw [setPart_apart hl (by rw [sM]; decide) (by rw [hs]; decide)]; exact R.r7⟩
theorem RepA.setField {w : World} {M : Array Value} {V : Nat → List ValN} (R : RepA w M V) {c : Array Value} {vs : List ValN} (h : RepField w c vs) : RepA w (setPart M 20 c) (fun j => if j = 1 then vs else V j) := by
  have sM := R.size
  have hs : c.size = 5 := h.size
  have hl : 20 + c.size ≤ M.size := by rw [hs, sM]; decide
  exact ⟨by rw [setPart_size hl]; exact sM, by rw [setPart_apart hl (by rw [sM]; decide) (by rw [hs]; decide)]; exact R.r0, by rw [setPart_self (by rw [hs]) hl]; exact h, by rw [setPart_apart hl (by rw [sM]; decide) (by rw [hs]; decide)]; exact R.r2, by rw [setPart_apart hl (by rw [sM]; decide) (by rw [hs]; decide)]; exact R.r3, by rw [setPart_apart hl (by rw [sM]; decide) (by rw [hs]; decide)]; exact R.r4, by rw [setPart_apart hl (by rw [sM]; decide) (by rw [hs]; decide)]; exact R.r5, by rw [setPart_apart hl (by rw [sM]; decide) (by rw [hs]; decide)]; exact R.r6, by rw [setPart_apart hl (by rw [sM]; decide) (by rw [hs]; decide)]; exact R.r7⟩
theorem RepA.setTable {w : World} {M : Array Value} {V : Nat → List ValN} (R : RepA w M V) {c : Array Value} {vs : List ValN} (h : RepTable w c vs) : RepA w (setPart M 25 c) (fun j => if j = 2 then vs else V j) := by
  have sM := R.size
  have hs : c.size = 5 := h.size
  have hl : 25 + c.size ≤ M.size := by rw [hs, sM]; decide
  exact ⟨by rw [setPart_size hl]; exact sM, by rw [setPart_apart hl (by rw [sM]; decide) (by rw [hs]; decide)]; exact R.r0, by rw [setPart_apart hl (by rw [sM]; decide) (by rw [hs]; decide)]; exact R.r1, by rw [setPart_self (by rw [hs]) hl]; exact h, by rw [setPart_apart hl (by rw [sM]; decide) (by rw [hs]; decide)]; exact R.r3, by rw [setPart_apart hl (by rw [sM]; decide) (by rw [hs]; decide)]; exact R.r4, by rw [setPart_apart hl (by rw [sM]; decide) (by rw [hs]; decide)]; exact R.r5, by rw [setPart_apart hl (by rw [sM]; decide) (by rw [hs]; decide)]; exact R.r6, by rw [setPart_apart hl (by rw [sM]; decide) (by rw [hs]; decide)]; exact R.r7⟩
theorem RepA.setEntry {w : World} {M : Array Value} {V : Nat → List ValN} (R : RepA w M V) {c : Array Value} {vs : List ValN} (h : RepEntry w c vs) : RepA w (setPart M 30 c) (fun j => if j = 3 then vs else V j) := by
  have sM := R.size
  have hs : c.size = 11 := h.size
  have hl : 30 + c.size ≤ M.size := by rw [hs, sM]; decide
  exact ⟨by rw [setPart_size hl]; exact sM, by rw [setPart_apart hl (by rw [sM]; decide) (by rw [hs]; decide)]; exact R.r0, by rw [setPart_apart hl (by rw [sM]; decide) (by rw [hs]; decide)]; exact R.r1, by rw [setPart_apart hl (by rw [sM]; decide) (by rw [hs]; decide)]; exact R.r2, by rw [setPart_self (by rw [hs]) hl]; exact h, by rw [setPart_apart hl (by rw [sM]; decide) (by rw [hs]; decide)]; exact R.r4, by rw [setPart_apart hl (by rw [sM]; decide) (by rw [hs]; decide)]; exact R.r5, by rw [setPart_apart hl (by rw [sM]; decide) (by rw [hs]; decide)]; exact R.r6, by rw [setPart_apart hl (by rw [sM]; decide) (by rw [hs]; decide)]; exact R.r7⟩
theorem RepA.setBlock {w : World} {M : Array Value} {V : Nat → List ValN} (R : RepA w M V) {c : Array Value} {vs : List ValN} (h : RepBlock w c vs) : RepA w (setPart M 41 c) (fun j => if j = 4 then vs else V j) := by
  have sM := R.size
  have hs : c.size = 2 := h.size
  have hl : 41 + c.size ≤ M.size := by rw [hs, sM]; decide
  exact ⟨by rw [setPart_size hl]; exact sM, by rw [setPart_apart hl (by rw [sM]; decide) (by rw [hs]; decide)]; exact R.r0, by rw [setPart_apart hl (by rw [sM]; decide) (by rw [hs]; decide)]; exact R.r1, by rw [setPart_apart hl (by rw [sM]; decide) (by rw [hs]; decide)]; exact R.r2, by rw [setPart_apart hl (by rw [sM]; decide) (by rw [hs]; decide)]; exact R.r3, by rw [setPart_self (by rw [hs]) hl]; exact h, by rw [setPart_apart hl (by rw [sM]; decide) (by rw [hs]; decide)]; exact R.r5, by rw [setPart_apart hl (by rw [sM]; decide) (by rw [hs]; decide)]; exact R.r6, by rw [setPart_apart hl (by rw [sM]; decide) (by rw [hs]; decide)]; exact R.r7⟩
theorem RepA.setGroup {w : World} {M : Array Value} {V : Nat → List ValN} (R : RepA w M V) {c : Array Value} {vs : List ValN} (h : RepGroup w c vs) : RepA w (setPart M 43 c) (fun j => if j = 5 then vs else V j) := by
  have sM := R.size
  have hs : c.size = 4 := h.size
  have hl : 43 + c.size ≤ M.size := by rw [hs, sM]; decide
  exact ⟨by rw [setPart_size hl]; exact sM, by rw [setPart_apart hl (by rw [sM]; decide) (by rw [hs]; decide)]; exact R.r0, by rw [setPart_apart hl (by rw [sM]; decide) (by rw [hs]; decide)]; exact R.r1, by rw [setPart_apart hl (by rw [sM]; decide) (by rw [hs]; decide)]; exact R.r2, by rw [setPart_apart hl (by rw [sM]; decide) (by rw [hs]; decide)]; exact R.r3, by rw [setPart_apart hl (by rw [sM]; decide) (by rw [hs]; decide)]; exact R.r4, by rw [setPart_self (by rw [hs]) hl]; exact h, by rw [setPart_apart hl (by rw [sM]; decide) (by rw [hs]; decide)]; exact R.r6, by rw [setPart_apart hl (by rw [sM]; decide) (by rw [hs]; decide)]; exact R.r7⟩
theorem RepA.setMeter {w : World} {M : Array Value} {V : Nat → List ValN} (R : RepA w M V) {c : Array Value} {vs : List ValN} (h : RepMeter w c vs) : RepA w (setPart M 47 c) (fun j => if j = 6 then vs else V j) := by
  have sM := R.size
  have hs : c.size = 3 := h.size
  have hl : 47 + c.size ≤ M.size := by rw [hs, sM]; decide
  exact ⟨by rw [setPart_size hl]; exact sM, by rw [setPart_apart hl (by rw [sM]; decide) (by rw [hs]; decide)]; exact R.r0, by rw [setPart_apart hl (by rw [sM]; decide) (by rw [hs]; decide)]; exact R.r1, by rw [setPart_apart hl (by rw [sM]; decide) (by rw [hs]; decide)]; exact R.r2, by rw [setPart_apart hl (by rw [sM]; decide) (by rw [hs]; decide)]; exact R.r3, by rw [setPart_apart hl (by rw [sM]; decide) (by rw [hs]; decide)]; exact R.r4, by rw [setPart_apart hl (by rw [sM]; decide) (by rw [hs]; decide)]; exact R.r5, by rw [setPart_self (by rw [hs]) hl]; exact h, by rw [setPart_apart hl (by rw [sM]; decide) (by rw [hs]; decide)]; exact R.r7⟩
theorem RepA.setRegs {w : World} {M : Array Value} {V : Nat → List ValN} (R : RepA w M V) {c : Array Value} {vs : List ValN} (h : RepRegs w c vs) : RepA w (setPart M 50 c) (fun j => if j = 7 then vs else V j) := by
  have sM := R.size
  have hs : c.size = 2 := h.size
  have hl : 50 + c.size ≤ M.size := by rw [hs, sM]; decide
  exact ⟨by rw [setPart_size hl]; exact sM, by rw [setPart_apart hl (by rw [sM]; decide) (by rw [hs]; decide)]; exact R.r0, by rw [setPart_apart hl (by rw [sM]; decide) (by rw [hs]; decide)]; exact R.r1, by rw [setPart_apart hl (by rw [sM]; decide) (by rw [hs]; decide)]; exact R.r2, by rw [setPart_apart hl (by rw [sM]; decide) (by rw [hs]; decide)]; exact R.r3, by rw [setPart_apart hl (by rw [sM]; decide) (by rw [hs]; decide)]; exact R.r4, by rw [setPart_apart hl (by rw [sM]; decide) (by rw [hs]; decide)]; exact R.r5, by rw [setPart_apart hl (by rw [sM]; decide) (by rw [hs]; decide)]; exact R.r6, by rw [setPart_self (by rw [hs]) hl]; exact h⟩
theorem RepD.set0 {w : World} {M : Array Value} {d : MsgD} (R : RepD w M d) (v : Int) (hv : (Lit.int .i64 v).wf = true) : RepD w (M.setIfInBounds 2 (.int .i64 v)) (d.setN 0 (.one (.num v))) := by
  have sM := R.size
  have hh : ∀ j, j ≠ 2 → j < 52 → (M.setIfInBounds 2 (.int .i64 v))[j]? = M[j]? := fun j h1 _ => Array.getElem?_setIfInBounds_ne (Ne.symm h1)
  have hc : (M.setIfInBounds 2 (.int .i64 v))[2]? = some (.int .i64 v) := by rw [Array.getElem?_setIfInBounds_self]; rw [if_pos (by omega)]
  have ra : RepA w (M.setIfInBounds 2 (.int .i64 v)) d.V := R.A.head (by simp) (fun j hj => Array.getElem?_setIfInBounds_ne (by omega))
  exact ⟨ra, by rw [hh 0 (by decide) (by decide)]; exact R.c0, R.w0, by rw [hh 1 (by decide) (by decide)]; exact R.c1, R.w1, hc, hv, by rw [hh 3 (by decide) (by decide)]; exact R.c3, R.w3, by rw [hh 4 (by decide) (by decide)]; exact R.c4, R.w4, by rw [hh 5 (by decide) (by decide)]; exact R.c5, R.w5, by rw [hh 6 (by decide) (by decide)]; exact R.c6, R.w6, by rw [hh 7 (by decide) (by decide)]; exact R.c7, R.w7, by rw [hh 8 (by decide) (by decide)]; exact R.c8, R.w8, by rw [hh 9 (by decide) (by decide)]; exact R.c9, R.w9, by obtain ⟨v, A, n, cap, e, r⟩ := R.c10; exact ⟨v, A, n, cap, by rw [hh 10 (by decide) (by decide)]; exact e, r⟩⟩
theorem RepD.set1 {w : World} {M : Array Value} {d : MsgD} (R : RepD w M d) (v : Int) (hv : (Lit.int .i64 v).wf = true) : RepD w (M.setIfInBounds 3 (.int .i64 v)) (d.setN 1 (.one (.num v))) := by
  have sM := R.size
  have hh : ∀ j, j ≠ 3 → j < 52 → (M.setIfInBounds 3 (.int .i64 v))[j]? = M[j]? := fun j h1 _ => Array.getElem?_setIfInBounds_ne (Ne.symm h1)
  have hc : (M.setIfInBounds 3 (.int .i64 v))[3]? = some (.int .i64 v) := by rw [Array.getElem?_setIfInBounds_self]; rw [if_pos (by omega)]
  have ra : RepA w (M.setIfInBounds 3 (.int .i64 v)) d.V := R.A.head (by simp) (fun j hj => Array.getElem?_setIfInBounds_ne (by omega))
  exact ⟨ra, by rw [hh 0 (by decide) (by decide)]; exact R.c0, R.w0, by rw [hh 1 (by decide) (by decide)]; exact R.c1, R.w1, by rw [hh 2 (by decide) (by decide)]; exact R.c2, R.w2, hc, hv, by rw [hh 4 (by decide) (by decide)]; exact R.c4, R.w4, by rw [hh 5 (by decide) (by decide)]; exact R.c5, R.w5, by rw [hh 6 (by decide) (by decide)]; exact R.c6, R.w6, by rw [hh 7 (by decide) (by decide)]; exact R.c7, R.w7, by rw [hh 8 (by decide) (by decide)]; exact R.c8, R.w8, by rw [hh 9 (by decide) (by decide)]; exact R.c9, R.w9, by obtain ⟨v, A, n, cap, e, r⟩ := R.c10; exact ⟨v, A, n, cap, by rw [hh 10 (by decide) (by decide)]; exact e, r⟩⟩
theorem RepD.set2 {w : World} {M : Array Value} {d : MsgD} (R : RepD w M d) (v : Int) (hv : (Lit.int .i64 v).wf = true) : RepD w (M.setIfInBounds 4 (.int .i64 v)) (d.setN 2 (.one (.num v))) := by
  have sM := R.size
  have hh : ∀ j, j ≠ 4 → j < 52 → (M.setIfInBounds 4 (.int .i64 v))[j]? = M[j]? := fun j h1 _ => Array.getElem?_setIfInBounds_ne (Ne.symm h1)
  have hc : (M.setIfInBounds 4 (.int .i64 v))[4]? = some (.int .i64 v) := by rw [Array.getElem?_setIfInBounds_self]; rw [if_pos (by omega)]
  have ra : RepA w (M.setIfInBounds 4 (.int .i64 v)) d.V := R.A.head (by simp) (fun j hj => Array.getElem?_setIfInBounds_ne (by omega))
  exact ⟨ra, by rw [hh 0 (by decide) (by decide)]; exact R.c0, R.w0, by rw [hh 1 (by decide) (by decide)]; exact R.c1, R.w1, by rw [hh 2 (by decide) (by decide)]; exact R.c2, R.w2, by rw [hh 3 (by decide) (by decide)]; exact R.c3, R.w3, hc, hv, by rw [hh 5 (by decide) (by decide)]; exact R.c5, R.w5, by rw [hh 6 (by decide) (by decide)]; exact R.c6, R.w6, by rw [hh 7 (by decide) (by decide)]; exact R.c7, R.w7, by rw [hh 8 (by decide) (by decide)]; exact R.c8, R.w8, by rw [hh 9 (by decide) (by decide)]; exact R.c9, R.w9, by obtain ⟨v, A, n, cap, e, r⟩ := R.c10; exact ⟨v, A, n, cap, by rw [hh 10 (by decide) (by decide)]; exact e, r⟩⟩
theorem RepD.set3 {w : World} {M : Array Value} {d : MsgD} (R : RepD w M d) (v : Int) (hv : (Lit.int .i64 v).wf = true) : RepD w (M.setIfInBounds 5 (.int .i64 v)) (d.setN 3 (.one (.num v))) := by
  have sM := R.size
  have hh : ∀ j, j ≠ 5 → j < 52 → (M.setIfInBounds 5 (.int .i64 v))[j]? = M[j]? := fun j h1 _ => Array.getElem?_setIfInBounds_ne (Ne.symm h1)
  have hc : (M.setIfInBounds 5 (.int .i64 v))[5]? = some (.int .i64 v) := by rw [Array.getElem?_setIfInBounds_self]; rw [if_pos (by omega)]
  have ra : RepA w (M.setIfInBounds 5 (.int .i64 v)) d.V := R.A.head (by simp) (fun j hj => Array.getElem?_setIfInBounds_ne (by omega))
  exact ⟨ra, by rw [hh 0 (by decide) (by decide)]; exact R.c0, R.w0, by rw [hh 1 (by decide) (by decide)]; exact R.c1, R.w1, by rw [hh 2 (by decide) (by decide)]; exact R.c2, R.w2, by rw [hh 3 (by decide) (by decide)]; exact R.c3, R.w3, by rw [hh 4 (by decide) (by decide)]; exact R.c4, R.w4, hc, hv, by rw [hh 6 (by decide) (by decide)]; exact R.c6, R.w6, by rw [hh 7 (by decide) (by decide)]; exact R.c7, R.w7, by rw [hh 8 (by decide) (by decide)]; exact R.c8, R.w8, by rw [hh 9 (by decide) (by decide)]; exact R.c9, R.w9, by obtain ⟨v, A, n, cap, e, r⟩ := R.c10; exact ⟨v, A, n, cap, by rw [hh 10 (by decide) (by decide)]; exact e, r⟩⟩
theorem RepD.set4 {w : World} {M : Array Value} {d : MsgD} (R : RepD w M d) (v : Int) (hv : (Lit.int .i64 v).wf = true) : RepD w (M.setIfInBounds 6 (.int .i64 v)) (d.setN 4 (.one (.num v))) := by
  have sM := R.size
  have hh : ∀ j, j ≠ 6 → j < 52 → (M.setIfInBounds 6 (.int .i64 v))[j]? = M[j]? := fun j h1 _ => Array.getElem?_setIfInBounds_ne (Ne.symm h1)
  have hc : (M.setIfInBounds 6 (.int .i64 v))[6]? = some (.int .i64 v) := by rw [Array.getElem?_setIfInBounds_self]; rw [if_pos (by omega)]
  have ra : RepA w (M.setIfInBounds 6 (.int .i64 v)) d.V := R.A.head (by simp) (fun j hj => Array.getElem?_setIfInBounds_ne (by omega))
  exact ⟨ra, by rw [hh 0 (by decide) (by decide)]; exact R.c0, R.w0, by rw [hh 1 (by decide) (by decide)]; exact R.c1, R.w1, by rw [hh 2 (by decide) (by decide)]; exact R.c2, R.w2, by rw [hh 3 (by decide) (by decide)]; exact R.c3, R.w3, by rw [hh 4 (by decide) (by decide)]; exact R.c4, R.w4, by rw [hh 5 (by decide) (by decide)]; exact R.c5, R.w5, hc, hv, by rw [hh 7 (by decide) (by decide)]; exact R.c7, R.w7, by rw [hh 8 (by decide) (by decide)]; exact R.c8, R.w8, by rw [hh 9 (by decide) (by decide)]; exact R.c9, R.w9, by obtain ⟨v, A, n, cap, e, r⟩ := R.c10; exact ⟨v, A, n, cap, by rw [hh 10 (by decide) (by decide)]; exact e, r⟩⟩
theorem RepD.set5 {w : World} {M : Array Value} {d : MsgD} (R : RepD w M d) (v : Int) (hv : (Lit.int .u64 v).wf = true) : RepD w (M.setIfInBounds 7 (.int .u64 v)) (d.setN 5 (.one (.num v))) := by
  have sM := R.size
  have hh : ∀ j, j ≠ 7 → j < 52 → (M.setIfInBounds 7 (.int .u64 v))[j]? = M[j]? := fun j h1 _ => Array.getElem?_setIfInBounds_ne (Ne.symm h1)
  have hc : (M.setIfInBounds 7 (.int .u64 v))[7]? = some (.int .u64 v) := by rw [Array.getElem?_setIfInBounds_self]; rw [if_pos (by omega)]
  have ra : RepA w (M.setIfInBounds 7 (.int .u64 v)) d.V := R.A.head (by simp) (fun j hj => Array.getElem?_setIfInBounds_ne (by omega))
  exact ⟨ra, by rw [hh 0 (by decide) (by decide)]; exact R.c0, R.w0, by rw [hh 1 (by decide) (by decide)]; exact R.c1, R.w1, by rw [hh 2 (by decide) (by decide)]; exact R.c2, R.w2, by rw [hh 3 (by decide) (by decide)]; exact R.c3, R.w3, by rw [hh 4 (by decide) (by decide)]; exact R.c4, R.w4, by rw [hh 5 (by decide) (by decide)]; exact R.c5, R.w5, by rw [hh 6 (by decide) (by decide)]; exact R.c6, R.w6, hc, hv, by rw [hh 8 (by decide) (by decide)]; exact R.c8, R.w8, by rw [hh 9 (by decide) (by decide)]; exact R.c9, R.w9, by obtain ⟨v, A, n, cap, e, r⟩ := R.c10; exact ⟨v, A, n, cap, by rw [hh 10 (by decide) (by decide)]; exact e, r⟩⟩
theorem RepD.set6 {w : World} {M : Array Value} {d : MsgD} (R : RepD w M d) (v : Int) (hv : (Lit.int .u64 v).wf = true) : RepD w (M.setIfInBounds 8 (.int .u64 v)) (d.setN 6 (.one (.num v))) := by
  have sM := R.size
  have hh : ∀ j, j ≠ 8 → j < 52 → (M.setIfInBounds 8 (.int .u64 v))[j]? = M[j]? := fun j h1 _ => Array.getElem?_setIfInBounds_ne (Ne.symm h1)
  have hc : (M.setIfInBounds 8 (.int .u64 v))[8]? = some (.int .u64 v) := by rw [Array.getElem?_setIfInBounds_self]; rw [if_pos (by omega)]
  have ra : RepA w (M.setIfInBounds 8 (.int .u64 v)) d.V := R.A.head (by simp) (fun j hj => Array.getElem?_setIfInBounds_ne (by omega))
  exact ⟨ra, by rw [hh 0 (by decide) (by decide)]; exact R.c0, R.w0, by rw [hh 1 (by decide) (by decide)]; exact R.c1, R.w1, by rw [hh 2 (by decide) (by decide)]; exact R.c2, R.w2, by rw [hh 3 (by decide) (by decide)]; exact R.c3, R.w3, by rw [hh 4 (by decide) (by decide)]; exact R.c4, R.w4, by rw [hh 5 (by decide) (by decide)]; exact R.c5, R.w5, by rw [hh 6 (by decide) (by decide)]; exact R.c6, R.w6, by rw [hh 7 (by decide) (by decide)]; exact R.c7, R.w7, hc, hv, by rw [hh 9 (by decide) (by decide)]; exact R.c9, R.w9, by obtain ⟨v, A, n, cap, e, r⟩ := R.c10; exact ⟨v, A, n, cap, by rw [hh 10 (by decide) (by decide)]; exact e, r⟩⟩
theorem RepD.set7 {w : World} {M : Array Value} {d : MsgD} (R : RepD w M d) (s : ByteArray) (hs : s.size ≤ maxLen) : RepD w (M.setIfInBounds 9 (.string s)) (d.setN 7 (.one (.txt s))) := by
  have sM := R.size
  have hh : ∀ j, j ≠ 9 → j < 52 → (M.setIfInBounds 9 (.string s))[j]? = M[j]? := fun j h1 _ => Array.getElem?_setIfInBounds_ne (Ne.symm h1)
  have hc : (M.setIfInBounds 9 (.string s))[9]? = some (.string s) := by rw [Array.getElem?_setIfInBounds_self]; rw [if_pos (by omega)]
  have ra : RepA w (M.setIfInBounds 9 (.string s)) d.V := R.A.head (by simp) (fun j hj => Array.getElem?_setIfInBounds_ne (by omega))
  exact ⟨ra, by rw [hh 0 (by decide) (by decide)]; exact R.c0, R.w0, by rw [hh 1 (by decide) (by decide)]; exact R.c1, R.w1, by rw [hh 2 (by decide) (by decide)]; exact R.c2, R.w2, by rw [hh 3 (by decide) (by decide)]; exact R.c3, R.w3, by rw [hh 4 (by decide) (by decide)]; exact R.c4, R.w4, by rw [hh 5 (by decide) (by decide)]; exact R.c5, R.w5, by rw [hh 6 (by decide) (by decide)]; exact R.c6, R.w6, by rw [hh 7 (by decide) (by decide)]; exact R.c7, R.w7, by rw [hh 8 (by decide) (by decide)]; exact R.c8, R.w8, hc, hs, by obtain ⟨v, A, n, cap, e, r⟩ := R.c10; exact ⟨v, A, n, cap, by rw [hh 10 (by decide) (by decide)]; exact e, r⟩⟩
theorem RepD.set8 {w : World} {M : Array Value} {d : MsgD} (R : RepD w M d) {v : Value} {L : List (List Int)} {A : Option Addr} {n cap : Nat} (h : RowW w v L A n cap) : RepD w (M.setIfInBounds 10 v) (d.setN 8 (.one (.lst L))) := by
  have sM := R.size
  have hh : ∀ j, j ≠ 10 → j < 52 → (M.setIfInBounds 10 v)[j]? = M[j]? := fun j h1 _ => Array.getElem?_setIfInBounds_ne (Ne.symm h1)
  have hc : (M.setIfInBounds 10 v)[10]? = some v := by rw [Array.getElem?_setIfInBounds_self]; rw [if_pos (by omega)]
  have ra : RepA w (M.setIfInBounds 10 v) d.V := R.A.head (by simp) (fun j hj => Array.getElem?_setIfInBounds_ne (by omega))
  exact ⟨ra, by rw [hh 0 (by decide) (by decide)]; exact R.c0, R.w0, by rw [hh 1 (by decide) (by decide)]; exact R.c1, R.w1, by rw [hh 2 (by decide) (by decide)]; exact R.c2, R.w2, by rw [hh 3 (by decide) (by decide)]; exact R.c3, R.w3, by rw [hh 4 (by decide) (by decide)]; exact R.c4, R.w4, by rw [hh 5 (by decide) (by decide)]; exact R.c5, R.w5, by rw [hh 6 (by decide) (by decide)]; exact R.c6, R.w6, by rw [hh 7 (by decide) (by decide)]; exact R.c7, R.w7, by rw [hh 8 (by decide) (by decide)]; exact R.c8, R.w8, by rw [hh 9 (by decide) (by decide)]; exact R.c9, R.w9, ⟨v, A, n, cap, hc, h⟩⟩
theorem RepD.set9 {w : World} {M : Array Value} {d : MsgD} (R : RepD w M d) {c : Array Value} {vs : List ValN} (h : RepNode w c vs) : RepD w (setPart M 11 c) (d.setN 9 (.obj vs)) := by
  have sM := R.size
  have hs : c.size = 9 := h.size
  have hl : 11 + c.size ≤ M.size := by rw [hs, sM]; decide
  have hh : ∀ j, j ≠ 52 → j < 11 → (setPart M 11 c)[j]? = M[j]? := fun j _ h1 => by rw [setPart_get hl, if_neg (by omega)]
  have ra := R.A.setNode h
  exact ⟨ra, by rw [hh 0 (by decide) (by decide)]; exact R.c0, R.w0, by rw [hh 1 (by decide) (by decide)]; exact R.c1, R.w1, by rw [hh 2 (by decide) (by decide)]; exact R.c2, R.w2, by rw [hh 3 (by decide) (by decide)]; exact R.c3, R.w3, by rw [hh 4 (by decide) (by decide)]; exact R.c4, R.w4, by rw [hh 5 (by decide) (by decide)]; exact R.c5, R.w5, by rw [hh 6 (by decide) (by decide)]; exact R.c6, R.w6, by rw [hh 7 (by decide) (by decide)]; exact R.c7, R.w7, by rw [hh 8 (by decide) (by decide)]; exact R.c8, R.w8, by rw [hh 9 (by decide) (by decide)]; exact R.c9, R.w9, by obtain ⟨v, A, n, cap, e, r⟩ := R.c10; exact ⟨v, A, n, cap, by rw [hh 10 (by decide) (by decide)]; exact e, r⟩⟩
theorem RepD.set10 {w : World} {M : Array Value} {d : MsgD} (R : RepD w M d) {c : Array Value} {vs : List ValN} (h : RepField w c vs) : RepD w (setPart M 20 c) (d.setN 10 (.obj vs)) := by
  have sM := R.size
  have hs : c.size = 5 := h.size
  have hl : 20 + c.size ≤ M.size := by rw [hs, sM]; decide
  have hh : ∀ j, j ≠ 52 → j < 11 → (setPart M 20 c)[j]? = M[j]? := fun j _ h1 => by rw [setPart_get hl, if_neg (by omega)]
  have ra := R.A.setField h
  exact ⟨ra, by rw [hh 0 (by decide) (by decide)]; exact R.c0, R.w0, by rw [hh 1 (by decide) (by decide)]; exact R.c1, R.w1, by rw [hh 2 (by decide) (by decide)]; exact R.c2, R.w2, by rw [hh 3 (by decide) (by decide)]; exact R.c3, R.w3, by rw [hh 4 (by decide) (by decide)]; exact R.c4, R.w4, by rw [hh 5 (by decide) (by decide)]; exact R.c5, R.w5, by rw [hh 6 (by decide) (by decide)]; exact R.c6, R.w6, by rw [hh 7 (by decide) (by decide)]; exact R.c7, R.w7, by rw [hh 8 (by decide) (by decide)]; exact R.c8, R.w8, by rw [hh 9 (by decide) (by decide)]; exact R.c9, R.w9, by obtain ⟨v, A, n, cap, e, r⟩ := R.c10; exact ⟨v, A, n, cap, by rw [hh 10 (by decide) (by decide)]; exact e, r⟩⟩
theorem RepD.set11 {w : World} {M : Array Value} {d : MsgD} (R : RepD w M d) {c : Array Value} {vs : List ValN} (h : RepTable w c vs) : RepD w (setPart M 25 c) (d.setN 11 (.obj vs)) := by
  have sM := R.size
  have hs : c.size = 5 := h.size
  have hl : 25 + c.size ≤ M.size := by rw [hs, sM]; decide
  have hh : ∀ j, j ≠ 52 → j < 11 → (setPart M 25 c)[j]? = M[j]? := fun j _ h1 => by rw [setPart_get hl, if_neg (by omega)]
  have ra := R.A.setTable h
  exact ⟨ra, by rw [hh 0 (by decide) (by decide)]; exact R.c0, R.w0, by rw [hh 1 (by decide) (by decide)]; exact R.c1, R.w1, by rw [hh 2 (by decide) (by decide)]; exact R.c2, R.w2, by rw [hh 3 (by decide) (by decide)]; exact R.c3, R.w3, by rw [hh 4 (by decide) (by decide)]; exact R.c4, R.w4, by rw [hh 5 (by decide) (by decide)]; exact R.c5, R.w5, by rw [hh 6 (by decide) (by decide)]; exact R.c6, R.w6, by rw [hh 7 (by decide) (by decide)]; exact R.c7, R.w7, by rw [hh 8 (by decide) (by decide)]; exact R.c8, R.w8, by rw [hh 9 (by decide) (by decide)]; exact R.c9, R.w9, by obtain ⟨v, A, n, cap, e, r⟩ := R.c10; exact ⟨v, A, n, cap, by rw [hh 10 (by decide) (by decide)]; exact e, r⟩⟩
theorem RepD.set12 {w : World} {M : Array Value} {d : MsgD} (R : RepD w M d) {c : Array Value} {vs : List ValN} (h : RepEntry w c vs) : RepD w (setPart M 30 c) (d.setN 12 (.obj vs)) := by
  have sM := R.size
  have hs : c.size = 11 := h.size
  have hl : 30 + c.size ≤ M.size := by rw [hs, sM]; decide
  have hh : ∀ j, j ≠ 52 → j < 11 → (setPart M 30 c)[j]? = M[j]? := fun j _ h1 => by rw [setPart_get hl, if_neg (by omega)]
  have ra := R.A.setEntry h
  exact ⟨ra, by rw [hh 0 (by decide) (by decide)]; exact R.c0, R.w0, by rw [hh 1 (by decide) (by decide)]; exact R.c1, R.w1, by rw [hh 2 (by decide) (by decide)]; exact R.c2, R.w2, by rw [hh 3 (by decide) (by decide)]; exact R.c3, R.w3, by rw [hh 4 (by decide) (by decide)]; exact R.c4, R.w4, by rw [hh 5 (by decide) (by decide)]; exact R.c5, R.w5, by rw [hh 6 (by decide) (by decide)]; exact R.c6, R.w6, by rw [hh 7 (by decide) (by decide)]; exact R.c7, R.w7, by rw [hh 8 (by decide) (by decide)]; exact R.c8, R.w8, by rw [hh 9 (by decide) (by decide)]; exact R.c9, R.w9, by obtain ⟨v, A, n, cap, e, r⟩ := R.c10; exact ⟨v, A, n, cap, by rw [hh 10 (by decide) (by decide)]; exact e, r⟩⟩
theorem RepD.set13 {w : World} {M : Array Value} {d : MsgD} (R : RepD w M d) {c : Array Value} {vs : List ValN} (h : RepBlock w c vs) : RepD w (setPart M 41 c) (d.setN 13 (.obj vs)) := by
  have sM := R.size
  have hs : c.size = 2 := h.size
  have hl : 41 + c.size ≤ M.size := by rw [hs, sM]; decide
  have hh : ∀ j, j ≠ 52 → j < 11 → (setPart M 41 c)[j]? = M[j]? := fun j _ h1 => by rw [setPart_get hl, if_neg (by omega)]
  have ra := R.A.setBlock h
  exact ⟨ra, by rw [hh 0 (by decide) (by decide)]; exact R.c0, R.w0, by rw [hh 1 (by decide) (by decide)]; exact R.c1, R.w1, by rw [hh 2 (by decide) (by decide)]; exact R.c2, R.w2, by rw [hh 3 (by decide) (by decide)]; exact R.c3, R.w3, by rw [hh 4 (by decide) (by decide)]; exact R.c4, R.w4, by rw [hh 5 (by decide) (by decide)]; exact R.c5, R.w5, by rw [hh 6 (by decide) (by decide)]; exact R.c6, R.w6, by rw [hh 7 (by decide) (by decide)]; exact R.c7, R.w7, by rw [hh 8 (by decide) (by decide)]; exact R.c8, R.w8, by rw [hh 9 (by decide) (by decide)]; exact R.c9, R.w9, by obtain ⟨v, A, n, cap, e, r⟩ := R.c10; exact ⟨v, A, n, cap, by rw [hh 10 (by decide) (by decide)]; exact e, r⟩⟩
theorem RepD.set14 {w : World} {M : Array Value} {d : MsgD} (R : RepD w M d) {c : Array Value} {vs : List ValN} (h : RepGroup w c vs) : RepD w (setPart M 43 c) (d.setN 14 (.obj vs)) := by
  have sM := R.size
  have hs : c.size = 4 := h.size
  have hl : 43 + c.size ≤ M.size := by rw [hs, sM]; decide
  have hh : ∀ j, j ≠ 52 → j < 11 → (setPart M 43 c)[j]? = M[j]? := fun j _ h1 => by rw [setPart_get hl, if_neg (by omega)]
  have ra := R.A.setGroup h
  exact ⟨ra, by rw [hh 0 (by decide) (by decide)]; exact R.c0, R.w0, by rw [hh 1 (by decide) (by decide)]; exact R.c1, R.w1, by rw [hh 2 (by decide) (by decide)]; exact R.c2, R.w2, by rw [hh 3 (by decide) (by decide)]; exact R.c3, R.w3, by rw [hh 4 (by decide) (by decide)]; exact R.c4, R.w4, by rw [hh 5 (by decide) (by decide)]; exact R.c5, R.w5, by rw [hh 6 (by decide) (by decide)]; exact R.c6, R.w6, by rw [hh 7 (by decide) (by decide)]; exact R.c7, R.w7, by rw [hh 8 (by decide) (by decide)]; exact R.c8, R.w8, by rw [hh 9 (by decide) (by decide)]; exact R.c9, R.w9, by obtain ⟨v, A, n, cap, e, r⟩ := R.c10; exact ⟨v, A, n, cap, by rw [hh 10 (by decide) (by decide)]; exact e, r⟩⟩
theorem RepD.set15 {w : World} {M : Array Value} {d : MsgD} (R : RepD w M d) {c : Array Value} {vs : List ValN} (h : RepMeter w c vs) : RepD w (setPart M 47 c) (d.setN 15 (.obj vs)) := by
  have sM := R.size
  have hs : c.size = 3 := h.size
  have hl : 47 + c.size ≤ M.size := by rw [hs, sM]; decide
  have hh : ∀ j, j ≠ 52 → j < 11 → (setPart M 47 c)[j]? = M[j]? := fun j _ h1 => by rw [setPart_get hl, if_neg (by omega)]
  have ra := R.A.setMeter h
  exact ⟨ra, by rw [hh 0 (by decide) (by decide)]; exact R.c0, R.w0, by rw [hh 1 (by decide) (by decide)]; exact R.c1, R.w1, by rw [hh 2 (by decide) (by decide)]; exact R.c2, R.w2, by rw [hh 3 (by decide) (by decide)]; exact R.c3, R.w3, by rw [hh 4 (by decide) (by decide)]; exact R.c4, R.w4, by rw [hh 5 (by decide) (by decide)]; exact R.c5, R.w5, by rw [hh 6 (by decide) (by decide)]; exact R.c6, R.w6, by rw [hh 7 (by decide) (by decide)]; exact R.c7, R.w7, by rw [hh 8 (by decide) (by decide)]; exact R.c8, R.w8, by rw [hh 9 (by decide) (by decide)]; exact R.c9, R.w9, by obtain ⟨v, A, n, cap, e, r⟩ := R.c10; exact ⟨v, A, n, cap, by rw [hh 10 (by decide) (by decide)]; exact e, r⟩⟩
theorem RepD.set16 {w : World} {M : Array Value} {d : MsgD} (R : RepD w M d) {c : Array Value} {vs : List ValN} (h : RepRegs w c vs) : RepD w (setPart M 50 c) (d.setN 16 (.obj vs)) := by
  have sM := R.size
  have hs : c.size = 2 := h.size
  have hl : 50 + c.size ≤ M.size := by rw [hs, sM]; decide
  have hh : ∀ j, j ≠ 52 → j < 11 → (setPart M 50 c)[j]? = M[j]? := fun j _ h1 => by rw [setPart_get hl, if_neg (by omega)]
  have ra := R.A.setRegs h
  exact ⟨ra, by rw [hh 0 (by decide) (by decide)]; exact R.c0, R.w0, by rw [hh 1 (by decide) (by decide)]; exact R.c1, R.w1, by rw [hh 2 (by decide) (by decide)]; exact R.c2, R.w2, by rw [hh 3 (by decide) (by decide)]; exact R.c3, R.w3, by rw [hh 4 (by decide) (by decide)]; exact R.c4, R.w4, by rw [hh 5 (by decide) (by decide)]; exact R.c5, R.w5, by rw [hh 6 (by decide) (by decide)]; exact R.c6, R.w6, by rw [hh 7 (by decide) (by decide)]; exact R.c7, R.w7, by rw [hh 8 (by decide) (by decide)]; exact R.c8, R.w8, by rw [hh 9 (by decide) (by decide)]; exact R.c9, R.w9, by obtain ⟨v, A, n, cap, e, r⟩ := R.c10; exact ⟨v, A, n, cap, by rw [hh 10 (by decide) (by decide)]; exact e, r⟩⟩
theorem setN_ps (d : MsgD) (i : Nat) (p : PartN) (hi : i < 17) (hp : ∀ q, d.ps[i]? = some q → (∃ v, p = .one (.num v) ∧ ∃ u, q = .one (.num u)) ∨ (∃ v, p = .one (.txt v) ∧ ∃ u, q = .one (.txt u)) ∨ (∃ v, p = .one (.lst v) ∧ ∃ u, q = .one (.lst u)) ∨ (∃ v, p = .obj v ∧ ∃ u, q = .obj u)) : (d.setN i p).ps = d.ps.set i p ∧ (d.setN i p).kind = d.kind ∧ (d.setN i p).xid = d.xid := by
  have q := hp _ (List.getElem?_eq_getElem (by rw [ps_length]; exact hi))
  match i, hi with
  | 0, _ =>
    rcases q with ⟨v, rfl, u, e⟩ | ⟨v, rfl, u, e⟩ | ⟨v, rfl, u, e⟩ | ⟨v, rfl, u, e⟩ <;> first | exact ⟨rfl, rfl, rfl⟩ | (simp [MsgD.ps] at e)
  | 1, _ =>
    rcases q with ⟨v, rfl, u, e⟩ | ⟨v, rfl, u, e⟩ | ⟨v, rfl, u, e⟩ | ⟨v, rfl, u, e⟩ <;> first | exact ⟨rfl, rfl, rfl⟩ | (simp [MsgD.ps] at e)
  | 2, _ =>
    rcases q with ⟨v, rfl, u, e⟩ | ⟨v, rfl, u, e⟩ | ⟨v, rfl, u, e⟩ | ⟨v, rfl, u, e⟩ <;> first | exact ⟨rfl, rfl, rfl⟩ | (simp [MsgD.ps] at e)
  | 3, _ =>
    rcases q with ⟨v, rfl, u, e⟩ | ⟨v, rfl, u, e⟩ | ⟨v, rfl, u, e⟩ | ⟨v, rfl, u, e⟩ <;> first | exact ⟨rfl, rfl, rfl⟩ | (simp [MsgD.ps] at e)
  | 4, _ =>
    rcases q with ⟨v, rfl, u, e⟩ | ⟨v, rfl, u, e⟩ | ⟨v, rfl, u, e⟩ | ⟨v, rfl, u, e⟩ <;> first | exact ⟨rfl, rfl, rfl⟩ | (simp [MsgD.ps] at e)
  | 5, _ =>
    rcases q with ⟨v, rfl, u, e⟩ | ⟨v, rfl, u, e⟩ | ⟨v, rfl, u, e⟩ | ⟨v, rfl, u, e⟩ <;> first | exact ⟨rfl, rfl, rfl⟩ | (simp [MsgD.ps] at e)
  | 6, _ =>
    rcases q with ⟨v, rfl, u, e⟩ | ⟨v, rfl, u, e⟩ | ⟨v, rfl, u, e⟩ | ⟨v, rfl, u, e⟩ <;> first | exact ⟨rfl, rfl, rfl⟩ | (simp [MsgD.ps] at e)
  | 7, _ =>
    rcases q with ⟨v, rfl, u, e⟩ | ⟨v, rfl, u, e⟩ | ⟨v, rfl, u, e⟩ | ⟨v, rfl, u, e⟩ <;> first | exact ⟨rfl, rfl, rfl⟩ | (simp [MsgD.ps] at e)
  | 8, _ =>
    rcases q with ⟨v, rfl, u, e⟩ | ⟨v, rfl, u, e⟩ | ⟨v, rfl, u, e⟩ | ⟨v, rfl, u, e⟩ <;> first | exact ⟨rfl, rfl, rfl⟩ | (simp [MsgD.ps] at e)
  | 9, _ =>
    rcases q with ⟨v, rfl, u, e⟩ | ⟨v, rfl, u, e⟩ | ⟨v, rfl, u, e⟩ | ⟨v, rfl, u, e⟩ <;> first | exact ⟨rfl, rfl, rfl⟩ | (simp [MsgD.ps] at e)
  | 10, _ =>
    rcases q with ⟨v, rfl, u, e⟩ | ⟨v, rfl, u, e⟩ | ⟨v, rfl, u, e⟩ | ⟨v, rfl, u, e⟩ <;> first | exact ⟨rfl, rfl, rfl⟩ | (simp [MsgD.ps] at e)
  | 11, _ =>
    rcases q with ⟨v, rfl, u, e⟩ | ⟨v, rfl, u, e⟩ | ⟨v, rfl, u, e⟩ | ⟨v, rfl, u, e⟩ <;> first | exact ⟨rfl, rfl, rfl⟩ | (simp [MsgD.ps] at e)
  | 12, _ =>
    rcases q with ⟨v, rfl, u, e⟩ | ⟨v, rfl, u, e⟩ | ⟨v, rfl, u, e⟩ | ⟨v, rfl, u, e⟩ <;> first | exact ⟨rfl, rfl, rfl⟩ | (simp [MsgD.ps] at e)
  | 13, _ =>
    rcases q with ⟨v, rfl, u, e⟩ | ⟨v, rfl, u, e⟩ | ⟨v, rfl, u, e⟩ | ⟨v, rfl, u, e⟩ <;> first | exact ⟨rfl, rfl, rfl⟩ | (simp [MsgD.ps] at e)
  | 14, _ =>
    rcases q with ⟨v, rfl, u, e⟩ | ⟨v, rfl, u, e⟩ | ⟨v, rfl, u, e⟩ | ⟨v, rfl, u, e⟩ <;> first | exact ⟨rfl, rfl, rfl⟩ | (simp [MsgD.ps] at e)
  | 15, _ =>
    rcases q with ⟨v, rfl, u, e⟩ | ⟨v, rfl, u, e⟩ | ⟨v, rfl, u, e⟩ | ⟨v, rfl, u, e⟩ <;> first | exact ⟨rfl, rfl, rfl⟩ | (simp [MsgD.ps] at e)
  | 16, _ =>
    rcases q with ⟨v, rfl, u, e⟩ | ⟨v, rfl, u, e⟩ | ⟨v, rfl, u, e⟩ | ⟨v, rfl, u, e⟩ <;> first | exact ⟨rfl, rfl, rfl⟩ | (simp [MsgD.ps] at e)
  | i + 17, h => omega
end Go.Proofs.YtilpimilbjcifaaGreatDoor

/- Package proto's getWords, by a walk. -/
namespace Go.Proofs.YtilpimilbjcifaaGreatDoor
set_option linter.unusedVariables false
set_option maxRecDepth 20000
open Go.ChangeShapes Go.WideShapes Go.ChangeAt Go.RowKit Go.Joins
open Go.ChangeMaps (open_string shut_string)

theorem dec_word {s : ByteArray} {v r : Nat} (h : rnumN s.data.toList 18446744073709551615 = (v, r)) : cArg.dec s = if r = 0 then some [(v : Int)] else none := by
  have e : cArg.dec s = ((if (rnumN s.data.toList topU).2 = 0 then some ((rnumN s.data.toList topU).1 : Int) else none : Option Int).map fun n => [n]) := rfl
  have h2 : rnumN s.data.toList topU = (v, r) := h
  rw [e, h2]
  by_cases q : r = 0
  · rw [if_pos q, if_pos q]; rfl
  · rw [if_neg q, if_neg q]; rfl
theorem words_none {s : ByteArray} {m : List ByteArray} {c : Nat} (h : decT [] 128 s.data.toList = (m, c)) (q : c ≠ 0 ∨ mapD cArg.dec m = none) : lWords.dec s = none := by
  have e : lWords.dec s = if (decT [] 128 s.data.toList).2 = 0 then (mapD cArg.dec (decT [] 128 s.data.toList).1).map ValN.lst else none := rfl
  rw [e, h]
  rcases q with q | q
  · rw [if_neg q]
  · split
    · rw [q]; rfl
    · rfl
theorem words_some {s : ByteArray} {m : List ByteArray} {L : List (List Int)} (h : decT [] 128 s.data.toList = (m, 0)) (q : mapD cArg.dec m = some L) : lWords.dec s = some (.lst L) := by
  have e : lWords.dec s = if (decT [] 128 s.data.toList).2 = 0 then (mapD cArg.dec (decT [] 128 s.data.toList).1).map ValN.lst else none := rfl
  rw [e, h, if_pos rfl, q]; rfl
theorem take_bad {m : List ByteArray} {j : Nat} {L : List (List Int)} {x : ByteArray} (h : mapD cArg.dec (m.take j) = some L) (hx : m[j]? = some x) (hn : cArg.dec x = none) : mapD cArg.dec m = none := by
  have e : m = m.take j ++ x :: m.drop (j + 1) := by
    obtain ⟨hj, rfl⟩ := List.getElem?_eq_some_iff.1 hx
    rw [← List.drop_eq_getElem_cons hj, List.take_append_drop]
  rw [e, mapD_append, h]
  simp only [Option.bind_some, mapD, hn, Option.map_none]
theorem take_good {m : List ByteArray} {j : Nat} {L : List (List Int)} {x : ByteArray} {y : List Int} (h : mapD cArg.dec (m.take j) = some L) (hx : m[j]? = some x) (hn : cArg.dec x = some y) : mapD cArg.dec (m.take (j + 1)) = some (L ++ [y]) := by
  rw [take_next m j x hx, mapD_append, h]
  simp only [Option.bind_some, mapD, hn, Option.map_some]
theorem word_wf {x : List Int} (h : cArg.ok x) : wfK ksArg x := by
  obtain ⟨v, rfl, h0, h1⟩ := h
  refine ⟨rfl, fun i k n hk hn => ?_⟩
  match i, hk, hn with
  | 0, hk, hn =>
    have e1 : k = .u64 := by simpa [ksArg] using hk.symm
    have e2 : n = v := by simpa using hn.symm
    subst e1 e2
    have a1 : IntKind.u64.min = 0 := rfl
    have a2 : IntKind.u64.max = 18446744073709551615 := rfl
    have h2 : n ≤ 18446744073709551615 := h1
    simp only [Lit.wf, Bool.and_eq_true, decide_eq_true_eq]
    omega
  | i + 1, hk, hn => simp [ksArg] at hk
theorem words_len {L : List (List Int)} (h : ∀ x ∈ L, cArg.ok x) : (cellsK ksArg L).length = L.length := by
  have q := cellsK_len ksArg L fun x hx => (word_wf (h x hx)).1
  rw [q]; exact Nat.mul_one _
theorem words_set {D : Array Value} {L : List (List Int)} {n j : Nat} (hL : ∀ x ∈ L, cArg.ok x) (hl : L.length = j) (hj : j < n) (hD : D.toList = cellsK ksArg L ++ List.replicate (n - j) (.int .u64 0)) (v : Int) :
    (D.setIfInBounds j (.int .u64 v)).toList = cellsK ksArg (L ++ [[v]]) ++ List.replicate (n - (j + 1)) (.int .u64 0) := by
  have e := words_len hL
  rw [hl] at e
  obtain ⟨k, hk⟩ : ∃ k, n - j = k + 1 := ⟨n - j - 1, by omega⟩
  rw [Array.toList_setIfInBounds, hD, hk, List.set_append_right _ _ (by omega), e, Nat.sub_self, List.replicate_succ, List.set_cons_zero, cellsK_snoc, show n - (j + 1) = k by omega, List.append_assoc]
  rfl
/-- What getWords tells. -/
def WordsAt (w0 w' : World) (s : ByteArray) (v : Value) (r : Nat) : Prop :=
  (∃ A n cap, v = .slice A n cap) ∧ ((∃ L, lWords.dec s = some (.lst L) ∧ r = 0 ∧ ∀ W, Keeps w0.heap.size w' W → ∃ A n cap, RowW W v L A n cap) ∨ (lWords.dec s = none ∧ r ≠ 0))
def zerosU (n : Nat) : Array Value := madeCells #[.int .u64 0] (n * 1)
theorem zerosU_size (n : Nat) : (zerosU n).size = n := by simp [zerosU, madeCells]
theorem zerosU_at (n j : Nat) (h : j < n) : (zerosU n)[j]? = some (.int .u64 0) := by
  have m : j % 1 = 0 := by omega
  simp [zerosU, madeCells, h, m]
set_option maxHeartbeats 8000000 in
theorem getWords_c (s : ByteArray) (w : World) (hs : s.size < 1000000) :
    Calls Tryz.prog 82 #[.string s] w fun e w' => ∃ (v : Value) (r : Nat), e = .returned (.tuple #[v, .int .i64 (r : Int)]) ∧ Wider w w' ∧ WordsAt w w' s v r := by
  obtain ⟨m, c, hd⟩ : ∃ m c, decT [] 128 s.data.toList = (m, c) := ⟨_, _, rfl⟩
  obtain ⟨n, hn⟩ : ∃ n, m.length = n := ⟨_, rfl⟩
  have zt := treadlist_o s 128 128 rfl w hs (by decide) hd hn
  by_cases hc : c = 0
  · subst hc
    have n9 : n ≤ 128 := by
      have q : m.length ≤ 128 := decT_most hd
      omega
    have mk := makeArg n (by omega)
    have HD := Lib.hid hd
    have HN := Lib.hid hn
    clear hd hn
    go_enter Tryz.func82, Tryz.ntmps82
    go_upto_region 4 with (first
      | (go_at_call 123; (with_reducible refine zt.mono ?_); rintro e w1 ⟨A, cc, rfl, g1, ho⟩))
    have HO := (Own.nil (Wider.refl w)).row g1 ho
    have H1 := HO.blk (zerosU n) 28
    obtain ⟨W1, hW1⟩ : ∃ W1, w1.alloc (.cells (zerosU n) 28) = W1 := ⟨_, rfl⟩
    obtain ⟨Bw, hBw⟩ : ∃ Bw, w1.heap.size = Bw := ⟨_, rfl⟩
    have mk1 : (Instr.makeSlice 29 (.int .i64 (n : Int)) (.int .i64 (n : Int))).run Tryz.prog w1 = .ok (.slice (some ⟨Bw, 0, none⟩) n n) W1 := by rw [← hBw, ← hW1]; exact mk w1
    have hbw : w.heap.size ≤ Bw := by rw [← hBw]; exact g1.2
    rw [hW1, hBw] at H1
    have hW1 := Lib.hid hW1
    have hBw := Lib.hid hBw
    clear ho zt mk HO
    go_wp2
    go_loopw [22] (fun i wr => ∃ j : Nat, j ≤ n ∧ i = .int .i64 (j : Int) ∧ ∃ D L, Hid (mapD cArg.dec (m.take j) = some L ∧ L.length = j ∧ D.toList = cellsK ksArg L ++ List.replicate (n - j) (.int .u64 0)) ∧ Own w wr [blkT Bw D 28, rowT 9 1 (.slice A n cc) n (cellsS m)]) (fun i _ => n - (intOf i).toNat)
    case atStart => exact ⟨0, by omega, by simp, zerosU n, [], ⟨rfl, rfl, by
      apply List.ext_getElem?
      intro i
      rw [Array.getElem?_toList]
      show _ = (([] : List Value) ++ List.replicate (n - 0) (.int .u64 0))[i]?
      rw [List.nil_append, Nat.sub_zero, List.getElem?_replicate]
      by_cases q : i < n
      · rw [if_pos q, zerosU_at n i q]
      · rw [if_neg q, Array.getElem?_eq_none (by rw [zerosU_size]; omega)]⟩, H1⟩
    case round =>
      clear H1 mk1
      obtain ⟨j, hj, rfl, D, L, HL, H⟩ := hrel
      have j0 : (0 : Int) ≤ (j : Int) := by omega
      have hok := (mapD_back cArg _ _ HL.out.1).1
      by_cases cj : j < n
      · have j1 : (j : Int) < (n : Int) := by omega
        obtain ⟨x, hx⟩ := next_some m j (by rw [HN.out]; exact cj)
        have sz : x.size < 1000000 := item_small HD.out hs hx
        obtain ⟨v, r, hr⟩ : ∃ v r, rnumN x.data.toList 18446744073709551615 = (v, r) := ⟨_, _, rfl⟩
        have zl := fun W : World => getLong_c W x sz hr
        have hdw := dec_word hr
        have sa := H.swap.strs
        have dl : D.size = n := by
          have e := congrArg List.length HL.out.2.2
          rw [List.length_append, words_len hok, List.length_replicate, HL.out.2.1, Array.length_toList] at e
          omega
        have d0 : (D[j]?).isSome = true := by rw [Array.getElem?_eq_getElem (by omega)]; rfl
        obtain ⟨d, hdj⟩ := Option.isSome_iff_exists.1 d0
        cases A with
        | none => exact absurd (sa.none_ rfl) (by intro e; rw [e] at hx; simp at hx)
        | some a =>
          have cx := sa.cell a rfl j x hx
          have HX := Lib.hid hx
          have HDJ := Lib.hid hdj
          have HOK := Lib.hid hok
          clear sa hr hx hdj d0 hok
          by_cases q : r = 0
          · subst q
            rw [if_pos rfl] at hdw
            have HDW := Lib.hid hdw
            clear hdw
            go_wp2_with (first
              | (go_at_call 81; (with_reducible refine (zl _).mono ?_); rintro e w2 ⟨rfl, g2⟩; replace H := H.quiet g2; have k0 := blk_cell H.head j HDJ.out; have f0 := blk_free H.head j; clear g2))
            have H3 := H.store j (.int .u64 (v : Int))
            go_roundw
            case rel => exact ⟨j + 1, by omega, by go_num, _, L ++ [[(v : Int)]], ⟨take_good HL.out.1 HX.out HDW.out, by simp [HL.out.2.1], words_set HOK.out HL.out.2.1 cj HL.out.2.2 (v : Int)⟩, H3⟩
            case measure => simp [intOf]; omega
          · rw [if_neg q] at hdw
            have bad := words_none HD.out (.inr (take_bad HL.out.1 HX.out hdw))
            have HB : Hid (lWords.dec s = none ∧ r ≠ 0) := ⟨bad, q⟩
            have q0 : ((r : Int) == 0) = false := by rw [beq_eq_false_iff_ne]; omega
            clear hdw bad q
            go_wp2_with (first
              | (go_at_call 81; (with_reducible refine (zl _).mono ?_); rintro e w2 ⟨rfl, g2⟩; replace H := H.quiet g2; have k0 := blk_cell H.head j HDJ.out; have f0 := blk_free H.head j; clear g2))
            have H3 := H.store j (.int .u64 (v : Int))
            go_ret2
            exact ⟨_, _, rfl, H3.wider, ⟨_, _, _, rfl⟩, .inr HB.out⟩
      · obtain rfl : j = n := by omega
        have e1 := HL.out.1
        rw [List.take_of_length_le (by rw [HN.out]; exact Nat.le_refl _)] at e1
        have hD : D.toList = cellsK ksArg L := by have := HL.out.2.2; rw [Nat.sub_self] at this; rw [this]; exact List.append_nil _
        have i1 : ¬ (j : Int) < (j : Int) := by omega
        have FIN : Hid (∀ W : World, W.heap[Bw]? = some (.cells D 28 (0, 0)) → RowW W (.slice (some ⟨Bw, 0, none⟩) j j) L (some ⟨Bw, 0, none⟩) j j) := fun W h => ⟨rfl, rowK_of (fun x hx => (word_wf (hok x hx)).1) (fun e => by cases e) (fun a e t u hu => by
          obtain rfl : (⟨Bw, 0, none⟩ : Addr) = a := by injection e
          rw [Addr.add_mid, Nat.zero_add]
          exact blk_cell h t (by rw [← Array.getElem?_toList, hD]; exact hu)), HL.out.2.1, by omega, fun x hx => word_wf (hok x hx)⟩
        have HS := Lib.hid (words_some HD.out e1)
        clear e1 hD hok
        go_wp2
        go_ret2
        exact ⟨_, 0, rfl, H.wider, ⟨_, _, _, rfl⟩, .inl ⟨L, HS.out, rfl, fun W k => ⟨_, _, _, FIN.out W (keep_blk H.head k hbw)⟩⟩⟩
  · have hnone := words_none hd (.inl hc)
    have c0 : ((c : Int) == 0) = false := by rw [beq_eq_false_iff_ne]; omega
    have HX : Hid (lWords.dec s = none ∧ c ≠ 0) := ⟨hnone, hc⟩
    clear hnone hd hn hc
    go_enter Tryz.func82, Tryz.ntmps82
    go_wp2_with (first
      | (go_at_call 123; (with_reducible refine zt.mono ?_); rintro e w1 ⟨A, cc, rfl, g1, _⟩))
    go_ret2
    exact ⟨_, _, rfl, g1, ⟨_, _, _, rfl⟩, .inr HX.out⟩
end Go.Proofs.YtilpimilbjcifaaGreatDoor

/- Package proto's get: what each part becomes, by walks. -/
namespace Go.Proofs.YtilpimilbjcifaaGreatDoor
set_option linter.unusedVariables false
set_option maxRecDepth 20000
open Go.ChangeShapes Go.WideShapes Go.ChangeAt Go.RowKit Go.Joins
open Go.ChangeMaps (open_string shut_string)

theorem wfG64 {v : Int} (h0 : 0 ≤ v) (h1 : v ≤ 9223372036854775807) : (Lit.int .i64 v).wf = true := by
  have e1 : IntKind.i64.min = -9223372036854775808 := rfl
  have e2 : IntKind.i64.max = 9223372036854775807 := rfl
  simp only [Lit.wf, Bool.and_eq_true, decide_eq_true_eq]
  omega
theorem wfGu64 {v : Int} (h0 : 0 ≤ v) (h1 : v ≤ 18446744073709551615) : (Lit.int .u64 v).wf = true := by
  have e1 : IntKind.u64.min = 0 := rfl
  have e2 : IntKind.u64.max = 18446744073709551615 := rfl
  simp only [Lit.wf, Bool.and_eq_true, decide_eq_true_eq]
  omega
theorem dec_int {s : ByteArray} {v r : Nat} (h : rnumN s.data.toList 2147483647 = (v, r)) : (oneP nI).dec s = if r = 0 then some (.one (.num (v : Int))) else none := by
  have e : (oneP nI).dec s = (((if (rnumN s.data.toList topI).2 = 0 then some ((rnumN s.data.toList topI).1 : Int) else none : Option Int).map ValN.num).map PartN.one) := rfl
  have h2 : rnumN s.data.toList topI = (v, r) := h
  rw [e, h2]
  by_cases q : r = 0
  · rw [if_pos q, if_pos q]; rfl
  · rw [if_neg q, if_neg q]; rfl
theorem dec_long {s : ByteArray} {v r : Nat} (h : rnumN s.data.toList 18446744073709551615 = (v, r)) : (oneP nU).dec s = if r = 0 then some (.one (.num (v : Int))) else none := by
  have e : (oneP nU).dec s = (((if (rnumN s.data.toList topU).2 = 0 then some ((rnumN s.data.toList topU).1 : Int) else none : Option Int).map ValN.num).map PartN.one) := rfl
  have h2 : rnumN s.data.toList topU = (v, r) := h
  rw [e, h2]
  by_cases q : r = 0
  · rw [if_pos q, if_pos q]; rfl
  · rw [if_neg q, if_neg q]; rfl
theorem dec_obj (most i : Nat) (s : ByteArray) {vs : List ValN} {r : Nat} (h : decG (csKind i) s.data.toList = (vs, r)) : (partC most (i + 9)).dec s = if r = 0 then some (.obj vs) else none := by
  have e : (partC most (i + 9)).dec s = if (decG (csKind i) s.data.toList).2 = 0 then some (.obj (decG (csKind i) s.data.toList).1) else none := rfl
  rw [e, h]
/-- What get leaves. -/
def GotAt (B b0 : Nat) (w0 w' : World) (d : MsgD) (i : Nat) (s : ByteArray) (r : Nat) : Prop :=
  WBut [B] w0 w' ∧ ((∃ p M', (partC 65535 i).dec s = some p ∧ r = 0 ∧ w'.heap[B]? = some (.cells M' 51 (0, 0)) ∧ RepK b0 w' M' (d.setN i p)) ∨ ((partC 65535 i).dec s = none ∧ r ≠ 0))

set_option maxHeartbeats 4000000 in
theorem pget_1 {w : World} {B b0 : Nat} {M : Array Value} {d : MsgD} (hB : w.heap[B]? = some (.cells M 51 (0, 0))) (hb : B < b0) (hz : b0 ≤ w.heap.size) (R : RepK b0 w M d) (s : ByteArray) (hs : s.size ≤ 65535) :
    Calls Tryz.prog 40 #[.pointer (some ⟨B, 0, none⟩), .int .u8 1, .string s] w fun e w' => ∃ r : Nat, e = .returned (.int .i64 (r : Int)) ∧ GotAt B b0 w w' d 0 s r := by
  obtain ⟨v, r, hr⟩ : ∃ v r, rnumN s.data.toList 2147483647 = (v, r) := ⟨_, _, rfl⟩
  have zi := getInt_c w s (by omega) hr
  have hv := rnum_le hr
  have hd := dec_int hr
  have RW := Lib.hid R
  have c0 := fun (w1 : World) (h : w1.heap[B]? = some (.cells M 51 (0, 0))) => blk_cell h 2 R.here.c2
  have HD := Lib.hid hd
  have HV := Lib.hid hv
  have HB := Lib.hid hB
  clear hr hd hv R hB
  go_enter Tryz.func40, Tryz.ntmps40
  go_wp2_with (first
    | (go_at_call 80; (with_reducible refine zi.mono ?_); rintro e w1 ⟨rfl, g1⟩; have h1 := wide_blk HB.out g1; have q1 := c0 w1 h1; have f1 := blk_free h1 2)
    | (with_reducible refine wpList_field rfl 51 (.tmp 16) 2 rfl B 0 2 rfl (fieldM2 _) ?_))
  go_ret
  have h2 := set_blk (j := 2) (.int .i64 (v : Int)) h1
  have b2 := g1.but [B] |>.trans (setCell_but w1 ⟨B, 2, none⟩ (.int .i64 (v : Int))) (fun j m => .inl m)
  refine ⟨r, rfl, b2, ?_⟩
  by_cases q : r = 0
  · refine .inl ⟨.one (.num (v : Int)), _, ?_, q, h2, fun W k => RepD.set0 (RW.out W ((b2.keeps hb).trans k)) (v : Int) (wfG64 (by omega) (by have := HV.out; omega))⟩
    have := HD.out; rw [if_pos q] at this; exact this
  · refine .inr ⟨?_, q⟩
    have := HD.out; rw [if_neg q] at this; exact this
set_option maxHeartbeats 4000000 in
theorem pget_2 {w : World} {B b0 : Nat} {M : Array Value} {d : MsgD} (hB : w.heap[B]? = some (.cells M 51 (0, 0))) (hb : B < b0) (hz : b0 ≤ w.heap.size) (R : RepK b0 w M d) (s : ByteArray) (hs : s.size ≤ 65535) :
    Calls Tryz.prog 40 #[.pointer (some ⟨B, 0, none⟩), .int .u8 2, .string s] w fun e w' => ∃ r : Nat, e = .returned (.int .i64 (r : Int)) ∧ GotAt B b0 w w' d 1 s r := by
  obtain ⟨v, r, hr⟩ : ∃ v r, rnumN s.data.toList 2147483647 = (v, r) := ⟨_, _, rfl⟩
  have zi := getInt_c w s (by omega) hr
  have hv := rnum_le hr
  have hd := dec_int hr
  have RW := Lib.hid R
  have c0 := fun (w1 : World) (h : w1.heap[B]? = some (.cells M 51 (0, 0))) => blk_cell h 3 R.here.c3
  have HD := Lib.hid hd
  have HV := Lib.hid hv
  have HB := Lib.hid hB
  clear hr hd hv R hB
  go_enter Tryz.func40, Tryz.ntmps40
  go_wp2_with (first
    | (go_at_call 80; (with_reducible refine zi.mono ?_); rintro e w1 ⟨rfl, g1⟩; have h1 := wide_blk HB.out g1; have q1 := c0 w1 h1; have f1 := blk_free h1 3)
    | (with_reducible refine wpList_field rfl 51 (.tmp 26) 3 rfl B 0 3 rfl (fieldM3 _) ?_))
  go_ret
  have h2 := set_blk (j := 3) (.int .i64 (v : Int)) h1
  have b2 := g1.but [B] |>.trans (setCell_but w1 ⟨B, 3, none⟩ (.int .i64 (v : Int))) (fun j m => .inl m)
  refine ⟨r, rfl, b2, ?_⟩
  by_cases q : r = 0
  · refine .inl ⟨.one (.num (v : Int)), _, ?_, q, h2, fun W k => RepD.set1 (RW.out W ((b2.keeps hb).trans k)) (v : Int) (wfG64 (by omega) (by have := HV.out; omega))⟩
    have := HD.out; rw [if_pos q] at this; exact this
  · refine .inr ⟨?_, q⟩
    have := HD.out; rw [if_neg q] at this; exact this
set_option maxHeartbeats 4000000 in
theorem pget_3 {w : World} {B b0 : Nat} {M : Array Value} {d : MsgD} (hB : w.heap[B]? = some (.cells M 51 (0, 0))) (hb : B < b0) (hz : b0 ≤ w.heap.size) (R : RepK b0 w M d) (s : ByteArray) (hs : s.size ≤ 65535) :
    Calls Tryz.prog 40 #[.pointer (some ⟨B, 0, none⟩), .int .u8 3, .string s] w fun e w' => ∃ r : Nat, e = .returned (.int .i64 (r : Int)) ∧ GotAt B b0 w w' d 2 s r := by
  obtain ⟨v, r, hr⟩ : ∃ v r, rnumN s.data.toList 2147483647 = (v, r) := ⟨_, _, rfl⟩
  have zi := getInt_c w s (by omega) hr
  have hv := rnum_le hr
  have hd := dec_int hr
  have RW := Lib.hid R
  have c0 := fun (w1 : World) (h : w1.heap[B]? = some (.cells M 51 (0, 0))) => blk_cell h 4 R.here.c4
  have HD := Lib.hid hd
  have HV := Lib.hid hv
  have HB := Lib.hid hB
  clear hr hd hv R hB
  go_enter Tryz.func40, Tryz.ntmps40
  go_wp2_with (first
    | (go_at_call 80; (with_reducible refine zi.mono ?_); rintro e w1 ⟨rfl, g1⟩; have h1 := wide_blk HB.out g1; have q1 := c0 w1 h1; have f1 := blk_free h1 4)
    | (with_reducible refine wpList_field rfl 51 (.tmp 36) 4 rfl B 0 4 rfl (fieldM4 _) ?_))
  go_ret
  have h2 := set_blk (j := 4) (.int .i64 (v : Int)) h1
  have b2 := g1.but [B] |>.trans (setCell_but w1 ⟨B, 4, none⟩ (.int .i64 (v : Int))) (fun j m => .inl m)
  refine ⟨r, rfl, b2, ?_⟩
  by_cases q : r = 0
  · refine .inl ⟨.one (.num (v : Int)), _, ?_, q, h2, fun W k => RepD.set2 (RW.out W ((b2.keeps hb).trans k)) (v : Int) (wfG64 (by omega) (by have := HV.out; omega))⟩
    have := HD.out; rw [if_pos q] at this; exact this
  · refine .inr ⟨?_, q⟩
    have := HD.out; rw [if_neg q] at this; exact this
set_option maxHeartbeats 4000000 in
theorem pget_4 {w : World} {B b0 : Nat} {M : Array Value} {d : MsgD} (hB : w.heap[B]? = some (.cells M 51 (0, 0))) (hb : B < b0) (hz : b0 ≤ w.heap.size) (R : RepK b0 w M d) (s : ByteArray) (hs : s.size ≤ 65535) :
    Calls Tryz.prog 40 #[.pointer (some ⟨B, 0, none⟩), .int .u8 4, .string s] w fun e w' => ∃ r : Nat, e = .returned (.int .i64 (r : Int)) ∧ GotAt B b0 w w' d 3 s r := by
  obtain ⟨v, r, hr⟩ : ∃ v r, rnumN s.data.toList 2147483647 = (v, r) := ⟨_, _, rfl⟩
  have zi := getInt_c w s (by omega) hr
  have hv := rnum_le hr
  have hd := dec_int hr
  have RW := Lib.hid R
  have c0 := fun (w1 : World) (h : w1.heap[B]? = some (.cells M 51 (0, 0))) => blk_cell h 5 R.here.c5
  have HD := Lib.hid hd
  have HV := Lib.hid hv
  have HB := Lib.hid hB
  clear hr hd hv R hB
  go_enter Tryz.func40, Tryz.ntmps40
  go_wp2_with (first
    | (go_at_call 80; (with_reducible refine zi.mono ?_); rintro e w1 ⟨rfl, g1⟩; have h1 := wide_blk HB.out g1; have q1 := c0 w1 h1; have f1 := blk_free h1 5)
    | (with_reducible refine wpList_field rfl 51 (.tmp 46) 5 rfl B 0 5 rfl (fieldM5 _) ?_))
  go_ret
  have h2 := set_blk (j := 5) (.int .i64 (v : Int)) h1
  have b2 := g1.but [B] |>.trans (setCell_but w1 ⟨B, 5, none⟩ (.int .i64 (v : Int))) (fun j m => .inl m)
  refine ⟨r, rfl, b2, ?_⟩
  by_cases q : r = 0
  · refine .inl ⟨.one (.num (v : Int)), _, ?_, q, h2, fun W k => RepD.set3 (RW.out W ((b2.keeps hb).trans k)) (v : Int) (wfG64 (by omega) (by have := HV.out; omega))⟩
    have := HD.out; rw [if_pos q] at this; exact this
  · refine .inr ⟨?_, q⟩
    have := HD.out; rw [if_neg q] at this; exact this
set_option maxHeartbeats 4000000 in
theorem pget_5 {w : World} {B b0 : Nat} {M : Array Value} {d : MsgD} (hB : w.heap[B]? = some (.cells M 51 (0, 0))) (hb : B < b0) (hz : b0 ≤ w.heap.size) (R : RepK b0 w M d) (s : ByteArray) (hs : s.size ≤ 65535) :
    Calls Tryz.prog 40 #[.pointer (some ⟨B, 0, none⟩), .int .u8 5, .string s] w fun e w' => ∃ r : Nat, e = .returned (.int .i64 (r : Int)) ∧ GotAt B b0 w w' d 4 s r := by
  obtain ⟨v, r, hr⟩ : ∃ v r, rnumN s.data.toList 2147483647 = (v, r) := ⟨_, _, rfl⟩
  have zi := getInt_c w s (by omega) hr
  have hv := rnum_le hr
  have hd := dec_int hr
  have RW := Lib.hid R
  have c0 := fun (w1 : World) (h : w1.heap[B]? = some (.cells M 51 (0, 0))) => blk_cell h 6 R.here.c6
  have HD := Lib.hid hd
  have HV := Lib.hid hv
  have HB := Lib.hid hB
  clear hr hd hv R hB
  go_enter Tryz.func40, Tryz.ntmps40
  go_wp2_with (first
    | (go_at_call 80; (with_reducible refine zi.mono ?_); rintro e w1 ⟨rfl, g1⟩; have h1 := wide_blk HB.out g1; have q1 := c0 w1 h1; have f1 := blk_free h1 6)
    | (with_reducible refine wpList_field rfl 51 (.tmp 56) 6 rfl B 0 6 rfl (fieldM6 _) ?_))
  go_ret
  have h2 := set_blk (j := 6) (.int .i64 (v : Int)) h1
  have b2 := g1.but [B] |>.trans (setCell_but w1 ⟨B, 6, none⟩ (.int .i64 (v : Int))) (fun j m => .inl m)
  refine ⟨r, rfl, b2, ?_⟩
  by_cases q : r = 0
  · refine .inl ⟨.one (.num (v : Int)), _, ?_, q, h2, fun W k => RepD.set4 (RW.out W ((b2.keeps hb).trans k)) (v : Int) (wfG64 (by omega) (by have := HV.out; omega))⟩
    have := HD.out; rw [if_pos q] at this; exact this
  · refine .inr ⟨?_, q⟩
    have := HD.out; rw [if_neg q] at this; exact this
set_option maxHeartbeats 4000000 in
theorem pget_6 {w : World} {B b0 : Nat} {M : Array Value} {d : MsgD} (hB : w.heap[B]? = some (.cells M 51 (0, 0))) (hb : B < b0) (hz : b0 ≤ w.heap.size) (R : RepK b0 w M d) (s : ByteArray) (hs : s.size ≤ 65535) :
    Calls Tryz.prog 40 #[.pointer (some ⟨B, 0, none⟩), .int .u8 6, .string s] w fun e w' => ∃ r : Nat, e = .returned (.int .i64 (r : Int)) ∧ GotAt B b0 w w' d 5 s r := by
  obtain ⟨v, r, hr⟩ : ∃ v r, rnumN s.data.toList 18446744073709551615 = (v, r) := ⟨_, _, rfl⟩
  have zi := getLong_c w s (by omega) hr
  have hv := rnum_le hr
  have hd := dec_long hr
  have RW := Lib.hid R
  have c0 := fun (w1 : World) (h : w1.heap[B]? = some (.cells M 51 (0, 0))) => blk_cell h 7 R.here.c7
  have HD := Lib.hid hd
  have HV := Lib.hid hv
  have HB := Lib.hid hB
  clear hr hd hv R hB
  go_enter Tryz.func40, Tryz.ntmps40
  go_wp2_with (first
    | (go_at_call 81; (with_reducible refine zi.mono ?_); rintro e w1 ⟨rfl, g1⟩; have h1 := wide_blk HB.out g1; have q1 := c0 w1 h1; have f1 := blk_free h1 7)
    | (with_reducible refine wpList_field rfl 51 (.tmp 66) 7 rfl B 0 7 rfl (fieldM7 _) ?_))
  go_ret
  have h2 := set_blk (j := 7) (.int .u64 (v : Int)) h1
  have b2 := g1.but [B] |>.trans (setCell_but w1 ⟨B, 7, none⟩ (.int .u64 (v : Int))) (fun j m => .inl m)
  refine ⟨r, rfl, b2, ?_⟩
  by_cases q : r = 0
  · refine .inl ⟨.one (.num (v : Int)), _, ?_, q, h2, fun W k => RepD.set5 (RW.out W ((b2.keeps hb).trans k)) (v : Int) (wfGu64 (by omega) (by have := HV.out; omega))⟩
    have := HD.out; rw [if_pos q] at this; exact this
  · refine .inr ⟨?_, q⟩
    have := HD.out; rw [if_neg q] at this; exact this
set_option maxHeartbeats 4000000 in
theorem pget_7 {w : World} {B b0 : Nat} {M : Array Value} {d : MsgD} (hB : w.heap[B]? = some (.cells M 51 (0, 0))) (hb : B < b0) (hz : b0 ≤ w.heap.size) (R : RepK b0 w M d) (s : ByteArray) (hs : s.size ≤ 65535) :
    Calls Tryz.prog 40 #[.pointer (some ⟨B, 0, none⟩), .int .u8 7, .string s] w fun e w' => ∃ r : Nat, e = .returned (.int .i64 (r : Int)) ∧ GotAt B b0 w w' d 6 s r := by
  obtain ⟨v, r, hr⟩ : ∃ v r, rnumN s.data.toList 18446744073709551615 = (v, r) := ⟨_, _, rfl⟩
  have zi := getLong_c w s (by omega) hr
  have hv := rnum_le hr
  have hd := dec_long hr
  have RW := Lib.hid R
  have c0 := fun (w1 : World) (h : w1.heap[B]? = some (.cells M 51 (0, 0))) => blk_cell h 8 R.here.c8
  have HD := Lib.hid hd
  have HV := Lib.hid hv
  have HB := Lib.hid hB
  clear hr hd hv R hB
  go_enter Tryz.func40, Tryz.ntmps40
  go_wp2_with (first
    | (go_at_call 81; (with_reducible refine zi.mono ?_); rintro e w1 ⟨rfl, g1⟩; have h1 := wide_blk HB.out g1; have q1 := c0 w1 h1; have f1 := blk_free h1 8)
    | (with_reducible refine wpList_field rfl 51 (.tmp 76) 8 rfl B 0 8 rfl (fieldM8 _) ?_))
  go_ret
  have h2 := set_blk (j := 8) (.int .u64 (v : Int)) h1
  have b2 := g1.but [B] |>.trans (setCell_but w1 ⟨B, 8, none⟩ (.int .u64 (v : Int))) (fun j m => .inl m)
  refine ⟨r, rfl, b2, ?_⟩
  by_cases q : r = 0
  · refine .inl ⟨.one (.num (v : Int)), _, ?_, q, h2, fun W k => RepD.set6 (RW.out W ((b2.keeps hb).trans k)) (v : Int) (wfGu64 (by omega) (by have := HV.out; omega))⟩
    have := HD.out; rw [if_pos q] at this; exact this
  · refine .inr ⟨?_, q⟩
    have := HD.out; rw [if_neg q] at this; exact this
set_option maxHeartbeats 4000000 in
theorem pget_8 {w : World} {B b0 : Nat} {M : Array Value} {d : MsgD} (hB : w.heap[B]? = some (.cells M 51 (0, 0))) (hb : B < b0) (hz : b0 ≤ w.heap.size) (R : RepK b0 w M d) (s : ByteArray) (hs : s.size ≤ 65535) :
    Calls Tryz.prog 40 #[.pointer (some ⟨B, 0, none⟩), .int .u8 8, .string s] w fun e w' => ∃ r : Nat, e = .returned (.int .i64 (r : Int)) ∧ GotAt B b0 w w' d 7 s r := by
  have c0 := blk_cell hB 9 R.here.c9
  have f0 := blk_free hB 9
  have HB := Lib.hid hB
  have RW := Lib.hid R
  have HS := Lib.hid hs
  clear hB R hs
  go_enter Tryz.func40, Tryz.ntmps40
  go_wp2_with (first
    | (with_reducible refine wpList_field rfl 51 (.tmp 82) 9 rfl B 0 9 rfl (fieldM9 _) ?_))
  go_ret
  have h2 := set_blk (j := 9) (.string s) HB.out
  have b2 := setCell_but w ⟨B, 9, none⟩ (.string s)
  have hs2 := HS.out
  refine ⟨0, rfl, b2, .inl ⟨.one (.txt s), _, ?_, rfl, h2, fun W k => RepD.set7 (RW.out W ((b2.keeps hb).trans k)) s (by unfold maxLen; omega)⟩⟩
  show ((if s.size ≤ 65535 then some (ValN.txt s) else none : Option ValN).map PartN.one) = _
  rw [if_pos hs2]; rfl
set_option maxHeartbeats 4000000 in
theorem pget_9 {w : World} {B b0 : Nat} {M : Array Value} {d : MsgD} (hB : w.heap[B]? = some (.cells M 51 (0, 0))) (hb : B < b0) (hz : b0 ≤ w.heap.size) (R : RepK b0 w M d) (s : ByteArray) (hs : s.size ≤ 65535) :
    Calls Tryz.prog 40 #[.pointer (some ⟨B, 0, none⟩), .int .u8 9, .string s] w fun e w' => ∃ r : Nat, e = .returned (.int .i64 (r : Int)) ∧ GotAt B b0 w w' d 8 s r := by
  have zw := getWords_c s w (by omega)
  have RW := Lib.hid R
  obtain ⟨v0, A0, n0, p0, e0, r0⟩ := R.here.c10
  have c0 := fun (w1 : World) (h : w1.heap[B]? = some (.cells M 51 (0, 0))) => blk_cell h 10 e0
  have HB := Lib.hid hB
  clear R hB e0 r0
  go_enter Tryz.func40, Tryz.ntmps40
  go_wp2_with (first
    | (go_at_call 82; (with_reducible refine zw.mono ?_); rintro e w1 ⟨v, r, rfl, g1, ⟨A9, n9, p9, rfl⟩, hw⟩; have HW := Lib.hid hw; clear hw; have h1 := wide_blk HB.out g1; have q1 := c0 w1 h1; have f1 := blk_free h1 10)
    | (with_reducible refine wpList_field rfl 51 (.tmp 92) 10 rfl B 0 10 rfl (fieldM10 _) ?_))
  go_ret
  have h2 := set_blk (j := 10) (.slice A9 n9 p9) h1
  have b2 := g1.but [B] |>.trans (setCell_but w1 ⟨B, 10, none⟩ (.slice A9 n9 p9)) (fun j m => .inl m)
  refine ⟨r, rfl, b2, ?_⟩
  rcases HW.out with ⟨L, hd, q, hL⟩ | ⟨hd, q⟩
  · refine .inl ⟨.one (.lst L), _, ?_, q, h2, fun W k => ?_⟩
    · show (lWords.dec s).map PartN.one = _
      rw [hd]; rfl
    · obtain ⟨A, n, cap, hl⟩ := hL W (((setCell_but w1 ⟨B, 10, none⟩ (.slice A9 n9 p9)).keeps (Nat.lt_of_lt_of_le hb hz)).trans (k.less hz))
      exact RepD.set8 (RW.out W ((b2.keeps hb).trans k)) hl
  · exact .inr ⟨by show (lWords.dec s).map PartN.one = _; rw [hd]; rfl, q⟩
set_option maxHeartbeats 4000000 in
theorem pget_10 {w : World} {B b0 : Nat} {M : Array Value} {d : MsgD} (hB : w.heap[B]? = some (.cells M 51 (0, 0))) (hb : B < b0) (hz : b0 ≤ w.heap.size) (R : RepK b0 w M d) (s : ByteArray) (hs : s.size ≤ 65535) :
    Calls Tryz.prog 40 #[.pointer (some ⟨B, 0, none⟩), .int .u8 10, .string s] w fun e w' => ∃ r : Nat, e = .returned (.int .i64 (r : Int)) ∧ GotAt B b0 w w' d 9 s r := by
  obtain ⟨vs, r, hr⟩ : ∃ vs r, decG csNode s.data.toList = (vs, r) := ⟨_, _, rfl⟩
  have zi := repNode_read s w (by omega) hr
  have hd := dec_obj 65535 0 s (vs := vs) (r := r) hr
  have RW := Lib.hid R
  have sM := R.here.size
  have HB := Lib.hid hB
  have HD := Lib.hid hd
  clear hr hd R hB
  go_enter Tryz.func40, Tryz.ntmps40
  go_wp2_with (first
    | (go_at_call 83; (with_reducible refine zi.mono ?_); rintro e w1 ⟨c, rfl, g1, hR⟩; have HR := Lib.hid hR; clear hR; have h1 := wide_blk HB.out g1; have sc := (HR.out _ (Keeps.refl _ _)).size; have oc := (HR.out _ (Keeps.refl _ _)).one)
    | (with_reducible refine wpList_field rfl 51 (.tmp 102) 11 rfl B 0 11 rfl (fieldM11 _) ?_)
    | (with_reducible refine wpList_store_part rfl 32 (.tmp 103) (.tmp 100) rfl B 11 c rfl rfl 51 M h1 (by rw [sc]; kernel_rfl) (by rw [sc, sM]; decide) oc (new := setPart M 11 c) rfl ?_))
  go_ret
  obtain ⟨g2, h2⟩ := setRow_facts (setPart M 11 c) h1
  have b2 := g1.but [B] |>.trans g2 (fun j m => .inl m)
  refine ⟨r, rfl, b2, ?_⟩
  by_cases q : r = 0
  · refine .inl ⟨.obj vs, _, ?_, q, h2, fun W k => RepD.set9 (RW.out W ((b2.keeps hb).trans k)) (HR.out W ((g2.keeps (Nat.lt_of_lt_of_le hb hz)).trans (k.less hz)))⟩
    have := HD.out; rw [if_pos q] at this; exact this
  · refine .inr ⟨?_, q⟩
    have := HD.out; rw [if_neg q] at this; exact this
set_option maxHeartbeats 4000000 in
theorem pget_11 {w : World} {B b0 : Nat} {M : Array Value} {d : MsgD} (hB : w.heap[B]? = some (.cells M 51 (0, 0))) (hb : B < b0) (hz : b0 ≤ w.heap.size) (R : RepK b0 w M d) (s : ByteArray) (hs : s.size ≤ 65535) :
    Calls Tryz.prog 40 #[.pointer (some ⟨B, 0, none⟩), .int .u8 11, .string s] w fun e w' => ∃ r : Nat, e = .returned (.int .i64 (r : Int)) ∧ GotAt B b0 w w' d 10 s r := by
  obtain ⟨vs, r, hr⟩ : ∃ vs r, decG csField s.data.toList = (vs, r) := ⟨_, _, rfl⟩
  have zi := repField_read s w (by omega) hr
  have hd := dec_obj 65535 1 s (vs := vs) (r := r) hr
  have RW := Lib.hid R
  have sM := R.here.size
  have HB := Lib.hid hB
  have HD := Lib.hid hd
  clear hr hd R hB
  go_enter Tryz.func40, Tryz.ntmps40
  go_wp2_with (first
    | (go_at_call 84; (with_reducible refine zi.mono ?_); rintro e w1 ⟨c, rfl, g1, hR⟩; have HR := Lib.hid hR; clear hR; have h1 := wide_blk HB.out g1; have sc := (HR.out _ (Keeps.refl _ _)).size; have oc := (HR.out _ (Keeps.refl _ _)).one)
    | (with_reducible refine wpList_field rfl 51 (.tmp 112) 12 rfl B 0 20 rfl (fieldM12 _) ?_)
    | (with_reducible refine wpList_store_part rfl 34 (.tmp 113) (.tmp 110) rfl B 20 c rfl rfl 51 M h1 (by rw [sc]; kernel_rfl) (by rw [sc, sM]; decide) oc (new := setPart M 20 c) rfl ?_))
  go_ret
  obtain ⟨g2, h2⟩ := setRow_facts (setPart M 20 c) h1
  have b2 := g1.but [B] |>.trans g2 (fun j m => .inl m)
  refine ⟨r, rfl, b2, ?_⟩
  by_cases q : r = 0
  · refine .inl ⟨.obj vs, _, ?_, q, h2, fun W k => RepD.set10 (RW.out W ((b2.keeps hb).trans k)) (HR.out W ((g2.keeps (Nat.lt_of_lt_of_le hb hz)).trans (k.less hz)))⟩
    have := HD.out; rw [if_pos q] at this; exact this
  · refine .inr ⟨?_, q⟩
    have := HD.out; rw [if_neg q] at this; exact this
set_option maxHeartbeats 4000000 in
theorem pget_12 {w : World} {B b0 : Nat} {M : Array Value} {d : MsgD} (hB : w.heap[B]? = some (.cells M 51 (0, 0))) (hb : B < b0) (hz : b0 ≤ w.heap.size) (R : RepK b0 w M d) (s : ByteArray) (hs : s.size ≤ 65535) :
    Calls Tryz.prog 40 #[.pointer (some ⟨B, 0, none⟩), .int .u8 12, .string s] w fun e w' => ∃ r : Nat, e = .returned (.int .i64 (r : Int)) ∧ GotAt B b0 w w' d 11 s r := by
  obtain ⟨vs, r, hr⟩ : ∃ vs r, decG csTable s.data.toList = (vs, r) := ⟨_, _, rfl⟩
  have zi := repTable_read s w (by omega) hr
  have hd := dec_obj 65535 2 s (vs := vs) (r := r) hr
  have RW := Lib.hid R
  have sM := R.here.size
  have HB := Lib.hid hB
  have HD := Lib.hid hd
  clear hr hd R hB
  go_enter Tryz.func40, Tryz.ntmps40
  go_wp2_with (first
    | (go_at_call 85; (with_reducible refine zi.mono ?_); rintro e w1 ⟨c, rfl, g1, hR⟩; have HR := Lib.hid hR; clear hR; have h1 := wide_blk HB.out g1; have sc := (HR.out _ (Keeps.refl _ _)).size; have oc := (HR.out _ (Keeps.refl _ _)).one)
    | (with_reducible refine wpList_field rfl 51 (.tmp 122) 13 rfl B 0 25 rfl (fieldM13 _) ?_)
    | (with_reducible refine wpList_store_part rfl 37 (.tmp 123) (.tmp 120) rfl B 25 c rfl rfl 51 M h1 (by rw [sc]; kernel_rfl) (by rw [sc, sM]; decide) oc (new := setPart M 25 c) rfl ?_))
  go_ret
  obtain ⟨g2, h2⟩ := setRow_facts (setPart M 25 c) h1
  have b2 := g1.but [B] |>.trans g2 (fun j m => .inl m)
  refine ⟨r, rfl, b2, ?_⟩
  by_cases q : r = 0
  · refine .inl ⟨.obj vs, _, ?_, q, h2, fun W k => RepD.set11 (RW.out W ((b2.keeps hb).trans k)) (HR.out W ((g2.keeps (Nat.lt_of_lt_of_le hb hz)).trans (k.less hz)))⟩
    have := HD.out; rw [if_pos q] at this; exact this
  · refine .inr ⟨?_, q⟩
    have := HD.out; rw [if_neg q] at this; exact this
set_option maxHeartbeats 4000000 in
theorem pget_13 {w : World} {B b0 : Nat} {M : Array Value} {d : MsgD} (hB : w.heap[B]? = some (.cells M 51 (0, 0))) (hb : B < b0) (hz : b0 ≤ w.heap.size) (R : RepK b0 w M d) (s : ByteArray) (hs : s.size ≤ 65535) :
    Calls Tryz.prog 40 #[.pointer (some ⟨B, 0, none⟩), .int .u8 13, .string s] w fun e w' => ∃ r : Nat, e = .returned (.int .i64 (r : Int)) ∧ GotAt B b0 w w' d 12 s r := by
  obtain ⟨vs, r, hr⟩ : ∃ vs r, decG csEntry s.data.toList = (vs, r) := ⟨_, _, rfl⟩
  have zi := repEntry_read s w (by omega) hr
  have hd := dec_obj 65535 3 s (vs := vs) (r := r) hr
  have RW := Lib.hid R
  have sM := R.here.size
  have HB := Lib.hid hB
  have HD := Lib.hid hd
  clear hr hd R hB
  go_enter Tryz.func40, Tryz.ntmps40
  go_wp2_with (first
    | (go_at_call 86; (with_reducible refine zi.mono ?_); rintro e w1 ⟨c, rfl, g1, hR⟩; have HR := Lib.hid hR; clear hR; have h1 := wide_blk HB.out g1; have sc := (HR.out _ (Keeps.refl _ _)).size; have oc := (HR.out _ (Keeps.refl _ _)).one)
    | (with_reducible refine wpList_field rfl 51 (.tmp 132) 14 rfl B 0 30 rfl (fieldM14 _) ?_)
    | (with_reducible refine wpList_store_part rfl 39 (.tmp 133) (.tmp 130) rfl B 30 c rfl rfl 51 M h1 (by rw [sc]; kernel_rfl) (by rw [sc, sM]; decide) oc (new := setPart M 30 c) rfl ?_))
  go_ret
  obtain ⟨g2, h2⟩ := setRow_facts (setPart M 30 c) h1
  have b2 := g1.but [B] |>.trans g2 (fun j m => .inl m)
  refine ⟨r, rfl, b2, ?_⟩
  by_cases q : r = 0
  · refine .inl ⟨.obj vs, _, ?_, q, h2, fun W k => RepD.set12 (RW.out W ((b2.keeps hb).trans k)) (HR.out W ((g2.keeps (Nat.lt_of_lt_of_le hb hz)).trans (k.less hz)))⟩
    have := HD.out; rw [if_pos q] at this; exact this
  · refine .inr ⟨?_, q⟩
    have := HD.out; rw [if_neg q] at this; exact this
set_option maxHeartbeats 4000000 in
theorem pget_14 {w : World} {B b0 : Nat} {M : Array Value} {d : MsgD} (hB : w.heap[B]? = some (.cells M 51 (0, 0))) (hb : B < b0) (hz : b0 ≤ w.heap.size) (R : RepK b0 w M d) (s : ByteArray) (hs : s.size ≤ 65535) :
    Calls Tryz.prog 40 #[.pointer (some ⟨B, 0, none⟩), .int .u8 14, .string s] w fun e w' => ∃ r : Nat, e = .returned (.int .i64 (r : Int)) ∧ GotAt B b0 w w' d 13 s r := by
  obtain ⟨vs, r, hr⟩ : ∃ vs r, decG csBlock s.data.toList = (vs, r) := ⟨_, _, rfl⟩
  have zi := repBlock_read s w (by omega) hr
  have hd := dec_obj 65535 4 s (vs := vs) (r := r) hr
  have RW := Lib.hid R
  have sM := R.here.size
  have HB := Lib.hid hB
  have HD := Lib.hid hd
  clear hr hd R hB
  go_enter Tryz.func40, Tryz.ntmps40
  go_wp2_with (first
    | (go_at_call 87; (with_reducible refine zi.mono ?_); rintro e w1 ⟨c, rfl, g1, hR⟩; have HR := Lib.hid hR; clear hR; have h1 := wide_blk HB.out g1; have sc := (HR.out _ (Keeps.refl _ _)).size; have oc := (HR.out _ (Keeps.refl _ _)).one)
    | (with_reducible refine wpList_field rfl 51 (.tmp 142) 15 rfl B 0 41 rfl (fieldM15 _) ?_)
    | (with_reducible refine wpList_store_part rfl 42 (.tmp 143) (.tmp 140) rfl B 41 c rfl rfl 51 M h1 (by rw [sc]; kernel_rfl) (by rw [sc, sM]; decide) oc (new := setPart M 41 c) rfl ?_))
  go_ret
  obtain ⟨g2, h2⟩ := setRow_facts (setPart M 41 c) h1
  have b2 := g1.but [B] |>.trans g2 (fun j m => .inl m)
  refine ⟨r, rfl, b2, ?_⟩
  by_cases q : r = 0
  · refine .inl ⟨.obj vs, _, ?_, q, h2, fun W k => RepD.set13 (RW.out W ((b2.keeps hb).trans k)) (HR.out W ((g2.keeps (Nat.lt_of_lt_of_le hb hz)).trans (k.less hz)))⟩
    have := HD.out; rw [if_pos q] at this; exact this
  · refine .inr ⟨?_, q⟩
    have := HD.out; rw [if_neg q] at this; exact this
set_option maxHeartbeats 4000000 in
theorem pget_15 {w : World} {B b0 : Nat} {M : Array Value} {d : MsgD} (hB : w.heap[B]? = some (.cells M 51 (0, 0))) (hb : B < b0) (hz : b0 ≤ w.heap.size) (R : RepK b0 w M d) (s : ByteArray) (hs : s.size ≤ 65535) :
    Calls Tryz.prog 40 #[.pointer (some ⟨B, 0, none⟩), .int .u8 15, .string s] w fun e w' => ∃ r : Nat, e = .returned (.int .i64 (r : Int)) ∧ GotAt B b0 w w' d 14 s r := by
  obtain ⟨vs, r, hr⟩ : ∃ vs r, decG csGroup s.data.toList = (vs, r) := ⟨_, _, rfl⟩
  have zi := repGroup_read s w (by omega) hr
  have hd := dec_obj 65535 5 s (vs := vs) (r := r) hr
  have RW := Lib.hid R
  have sM := R.here.size
  have HB := Lib.hid hB
  have HD := Lib.hid hd
  clear hr hd R hB
  go_enter Tryz.func40, Tryz.ntmps40
  go_wp2_with (first
    | (go_at_call 88; (with_reducible refine zi.mono ?_); rintro e w1 ⟨c, rfl, g1, hR⟩; have HR := Lib.hid hR; clear hR; have h1 := wide_blk HB.out g1; have sc := (HR.out _ (Keeps.refl _ _)).size; have oc := (HR.out _ (Keeps.refl _ _)).one)
    | (with_reducible refine wpList_field rfl 51 (.tmp 152) 16 rfl B 0 43 rfl (fieldM16 _) ?_)
    | (with_reducible refine wpList_store_part rfl 45 (.tmp 153) (.tmp 150) rfl B 43 c rfl rfl 51 M h1 (by rw [sc]; kernel_rfl) (by rw [sc, sM]; decide) oc (new := setPart M 43 c) rfl ?_))
  go_ret
  obtain ⟨g2, h2⟩ := setRow_facts (setPart M 43 c) h1
  have b2 := g1.but [B] |>.trans g2 (fun j m => .inl m)
  refine ⟨r, rfl, b2, ?_⟩
  by_cases q : r = 0
  · refine .inl ⟨.obj vs, _, ?_, q, h2, fun W k => RepD.set14 (RW.out W ((b2.keeps hb).trans k)) (HR.out W ((g2.keeps (Nat.lt_of_lt_of_le hb hz)).trans (k.less hz)))⟩
    have := HD.out; rw [if_pos q] at this; exact this
  · refine .inr ⟨?_, q⟩
    have := HD.out; rw [if_neg q] at this; exact this
set_option maxHeartbeats 4000000 in
theorem pget_16 {w : World} {B b0 : Nat} {M : Array Value} {d : MsgD} (hB : w.heap[B]? = some (.cells M 51 (0, 0))) (hb : B < b0) (hz : b0 ≤ w.heap.size) (R : RepK b0 w M d) (s : ByteArray) (hs : s.size ≤ 65535) :
    Calls Tryz.prog 40 #[.pointer (some ⟨B, 0, none⟩), .int .u8 16, .string s] w fun e w' => ∃ r : Nat, e = .returned (.int .i64 (r : Int)) ∧ GotAt B b0 w w' d 15 s r := by
  obtain ⟨vs, r, hr⟩ : ∃ vs r, decG csMeter s.data.toList = (vs, r) := ⟨_, _, rfl⟩
  have zi := repMeter_read s w (by omega) hr
  have hd := dec_obj 65535 6 s (vs := vs) (r := r) hr
  have RW := Lib.hid R
  have sM := R.here.size
  have HB := Lib.hid hB
  have HD := Lib.hid hd
  clear hr hd R hB
  go_enter Tryz.func40, Tryz.ntmps40
  go_wp2_with (first
    | (go_at_call 89; (with_reducible refine zi.mono ?_); rintro e w1 ⟨c, rfl, g1, hR⟩; have HR := Lib.hid hR; clear hR; have h1 := wide_blk HB.out g1; have sc := (HR.out _ (Keeps.refl _ _)).size; have oc := (HR.out _ (Keeps.refl _ _)).one)
    | (with_reducible refine wpList_field rfl 51 (.tmp 162) 17 rfl B 0 47 rfl (fieldM17 _) ?_)
    | (with_reducible refine wpList_store_part rfl 47 (.tmp 163) (.tmp 160) rfl B 47 c rfl rfl 51 M h1 (by rw [sc]; kernel_rfl) (by rw [sc, sM]; decide) oc (new := setPart M 47 c) rfl ?_))
  go_ret
  obtain ⟨g2, h2⟩ := setRow_facts (setPart M 47 c) h1
  have b2 := g1.but [B] |>.trans g2 (fun j m => .inl m)
  refine ⟨r, rfl, b2, ?_⟩
  by_cases q : r = 0
  · refine .inl ⟨.obj vs, _, ?_, q, h2, fun W k => RepD.set15 (RW.out W ((b2.keeps hb).trans k)) (HR.out W ((g2.keeps (Nat.lt_of_lt_of_le hb hz)).trans (k.less hz)))⟩
    have := HD.out; rw [if_pos q] at this; exact this
  · refine .inr ⟨?_, q⟩
    have := HD.out; rw [if_neg q] at this; exact this
set_option maxHeartbeats 4000000 in
theorem pget_17 {w : World} {B b0 : Nat} {M : Array Value} {d : MsgD} (hB : w.heap[B]? = some (.cells M 51 (0, 0))) (hb : B < b0) (hz : b0 ≤ w.heap.size) (R : RepK b0 w M d) (s : ByteArray) (hs : s.size ≤ 65535) :
    Calls Tryz.prog 40 #[.pointer (some ⟨B, 0, none⟩), .int .u8 17, .string s] w fun e w' => ∃ r : Nat, e = .returned (.int .i64 (r : Int)) ∧ GotAt B b0 w w' d 16 s r := by
  obtain ⟨vs, r, hr⟩ : ∃ vs r, decG csRegs s.data.toList = (vs, r) := ⟨_, _, rfl⟩
  have zi := repRegs_read s w (by omega) hr
  have hd := dec_obj 65535 7 s (vs := vs) (r := r) hr
  have RW := Lib.hid R
  have sM := R.here.size
  have HB := Lib.hid hB
  have HD := Lib.hid hd
  clear hr hd R hB
  go_enter Tryz.func40, Tryz.ntmps40
  go_wp2_with (first
    | (go_at_call 90; (with_reducible refine zi.mono ?_); rintro e w1 ⟨c, rfl, g1, hR⟩; have HR := Lib.hid hR; clear hR; have h1 := wide_blk HB.out g1; have sc := (HR.out _ (Keeps.refl _ _)).size; have oc := (HR.out _ (Keeps.refl _ _)).one)
    | (with_reducible refine wpList_field rfl 51 (.tmp 172) 18 rfl B 0 50 rfl (fieldM18 _) ?_)
    | (with_reducible refine wpList_store_part rfl 49 (.tmp 173) (.tmp 170) rfl B 50 c rfl rfl 51 M h1 (by rw [sc]; kernel_rfl) (by rw [sc, sM]; decide) oc (new := setPart M 50 c) rfl ?_))
  go_ret
  obtain ⟨g2, h2⟩ := setRow_facts (setPart M 50 c) h1
  have b2 := g1.but [B] |>.trans g2 (fun j m => .inl m)
  refine ⟨r, rfl, b2, ?_⟩
  by_cases q : r = 0
  · refine .inl ⟨.obj vs, _, ?_, q, h2, fun W k => RepD.set16 (RW.out W ((b2.keeps hb).trans k)) (HR.out W ((g2.keeps (Nat.lt_of_lt_of_le hb hz)).trans (k.less hz)))⟩
    have := HD.out; rw [if_pos q] at this; exact this
  · refine .inr ⟨?_, q⟩
    have := HD.out; rw [if_neg q] at this; exact this
theorem pget_c {w : World} {B b0 : Nat} {M : Array Value} {d : MsgD} (hB : w.heap[B]? = some (.cells M 51 (0, 0))) (hb : B < b0) (hz : b0 ≤ w.heap.size) (R : RepK b0 w M d) (s : ByteArray) (hs : s.size ≤ 65535) (t : Nat) (h1 : 1 ≤ t) (h2 : t ≤ 17) :
    Calls Tryz.prog 40 #[.pointer (some ⟨B, 0, none⟩), .int .u8 (t : Int), .string s] w fun e w' => ∃ r : Nat, e = .returned (.int .i64 (r : Int)) ∧ GotAt B b0 w w' d (t - 1) s r := by
  match t, h1, h2 with
  | 1, _, _ => exact pget_1 hB hb hz R s hs
  | 2, _, _ => exact pget_2 hB hb hz R s hs
  | 3, _, _ => exact pget_3 hB hb hz R s hs
  | 4, _, _ => exact pget_4 hB hb hz R s hs
  | 5, _, _ => exact pget_5 hB hb hz R s hs
  | 6, _, _ => exact pget_6 hB hb hz R s hs
  | 7, _, _ => exact pget_7 hB hb hz R s hs
  | 8, _, _ => exact pget_8 hB hb hz R s hs
  | 9, _, _ => exact pget_9 hB hb hz R s hs
  | 10, _, _ => exact pget_10 hB hb hz R s hs
  | 11, _, _ => exact pget_11 hB hb hz R s hs
  | 12, _, _ => exact pget_12 hB hb hz R s hs
  | 13, _, _ => exact pget_13 hB hb hz R s hs
  | 14, _, _ => exact pget_14 hB hb hz R s hs
  | 15, _, _ => exact pget_15 hB hb hz R s hs
  | 16, _, _ => exact pget_16 hB hb hz R s hs
  | 17, _, _ => exact pget_17 hB hb hz R s hs
  | 0, h, _ => omega
  | t + 18, _, h => omega
end Go.Proofs.YtilpimilbjcifaaGreatDoor

/- Package proto's getHead, by a walk. -/
namespace Go.Proofs.YtilpimilbjcifaaGreatDoor
set_option linter.unusedVariables false
set_option maxRecDepth 20000
open Go.ChangeShapes Go.WideShapes Go.ChangeAt Go.RowKit Go.Joins
open Go.ChangeMaps (open_string shut_string)

/-- A message of a kind and a number, and nothing else. -/
def headM (k x : Nat) : Array Value := (zM.setIfInBounds 0 (.int .u8 (k : Int))).setIfInBounds 1 (.int .u32 (x : Int))
def headD (k x : Nat) : MsgD := ⟨k, x, 0, 0, 0, 0, 0, 0, 0, ⟨#[]⟩, [], zV⟩
theorem headD_ps (k x : Nat) : (headD k x).ps = zeroP := rfl
theorem headM_size (k x : Nat) : (headM k x).size = 52 := rfl
theorem wfH8 {v : Int} (h0 : 0 ≤ v) (h1 : v < 256) : (Lit.int .u8 v).wf = true := by
  have e1 : IntKind.u8.min = 0 := rfl
  have e2 : IntKind.u8.max = 255 := rfl
  simp only [Lit.wf, Bool.and_eq_true, decide_eq_true_eq]
  omega
theorem wfH32 {v : Int} (h0 : 0 ≤ v) (h1 : v < 4294967296) : (Lit.int .u32 v).wf = true := by
  have e1 : IntKind.u32.min = 0 := rfl
  have e2 : IntKind.u32.max = 4294967295 := rfl
  simp only [Lit.wf, Bool.and_eq_true, decide_eq_true_eq]
  omega
theorem headM_rep (w : World) (k x : Nat) (hk : k < 256) (hx : x < 4294967296) : RepD w (headM k x) (headD k x) :=
  ⟨(zM_rep w).head rfl (fun j hj => by
      unfold headM
      rw [Array.getElem?_setIfInBounds_ne (by omega), Array.getElem?_setIfInBounds_ne (by omega)]), rfl, wfH8 (by show (0 : Int) ≤ (k : Int); omega) (by show (k : Int) < 256; omega), rfl, wfH32 (by show (0 : Int) ≤ (x : Int); omega) (by show (x : Int) < 4294967296; omega), rfl, rfl, rfl, rfl, rfl, rfl, rfl, rfl, rfl, rfl, rfl, rfl, rfl, rfl, rfl, Nat.zero_le _, .slice none 0 0, none, 0, 0, rfl, rfl, ⟨fun _ => rfl, fun a e => by cases e⟩, rfl, by decide, fun x hx => by cases hx⟩
theorem byte_or8 (n b : Nat) (hb : b < 256) : n * 256 ||| b = n * 256 + b := by
  have := Nat.two_pow_add_eq_or_of_lt (i := 8) (b := b) (by simpa using hb) n
  rw [show n * 256 = 2 ^ 8 * n by omega, ← this]
theorem bits_or_u32_nat (a b : Nat) (ha : a < 4294967296) (hb : b < 4294967296) : bits .or .u32 (a : Int) (b : Int) = ((a ||| b : Nat) : Int) := by
  have hx : a ||| b < 2 ^ 32 := Nat.or_lt_two_pow (by omega) (by omega)
  have h1 : (BitVec.ofInt 32 (a : Int)).toNat = a := by
    rw [BitVec.ofInt_natCast, BitVec.toNat_ofNat]; exact Nat.mod_eq_of_lt (by omega)
  have h2 : (BitVec.ofInt 32 (b : Int)).toNat = b := by
    rw [BitVec.ofInt_natCast, BitVec.toNat_ofNat]; exact Nat.mod_eq_of_lt (by omega)
  show IntKind.u32.wrap ((BitVec.ofInt 32 (a : Int) ||| BitVec.ofInt 32 (b : Int)).toNat : Int) = _
  rw [BitVec.toNat_or, h1, h2]
  simp [IntKind.wrap, IntKind.bits, IntKind.signed]; omega
theorem oneKind (k : Int) : (zM.setIfInBounds 0 (.int .u8 k)).all (·.oneCell') = true := by
  rw [show zM.setIfInBounds 0 (.int .u8 k) = (Value.int .u8 k :: zM.toList.drop 1).toArray from rfl, List.all_toArray]
  rfl
theorem oneHead (k x : Nat) : (headM k x).all (·.oneCell') = true := by
  rw [show headM k x = (Value.int .u8 (k : Int) :: Value.int .u32 (x : Int) :: zM.toList.drop 2).toArray from rfl, List.all_toArray]
  rfl
theorem headM_set (k x y : Nat) : (headM k x).setIfInBounds 1 (.int .u32 (y : Int)) = headM k y := rfl
theorem buildKind (w : World) (k : Int) : (Instr.build 51 #[(0, .int .u8 k)]).run Tryz.prog w = .ok (.agg (zM.setIfInBounds 0 (.int .u8 k))) w := run_build w _ _ (zM.setIfInBounds 0 (.int .u8 k)) (by kernel_rfl)
theorem wpList_isG {P : Program} {ops : Array Oper} {rest : List Oper} {op : Oper} {a : Act} {w : World} {Q : Exit → Act → World → Prop} (n : Nat) (hd : op.dst = some n)
    (h : wpList P ops Q (op :: rest) a w) : wpList P ops Q (op :: rest) a w := h
set_option maxHeartbeats 8000000 in
theorem getHead_c (w : World) (s : ByteArray) (a : UInt8) (r : List UInt8) (hs : s.data.toList = a :: r) (hr : r.length = 4) {k x : Nat} (hk : a.toNat = k) (hx : readB r = x) :
    Calls Tryz.prog 39 #[.string s] w fun e w' => e = .returned (.agg (headM k x)) ∧ Wider w w' := by
  have h5 : s.size = 5 := by rw [size_data, hs]; simp [hr]
  subst hk
  obtain ⟨k, hk⟩ : ∃ k, a.toNat = k := ⟨_, rfl⟩
  have k8 : k < 256 := by rw [← hk]; exact UInt8.toNat_lt a
  rw [hk]
  have H0 := ((Own.nil (Wider.refl w)).blk zM 51).blk zM 51
  have z1 : (w.alloc (.cells zM 51)).heap.size = w.heap.size + 1 := by simp
  rw [z1] at H0
  clear z1
  have h0 := H0.head
  have s0 : s[0]'(by omega) = a := by
    have e : s[0]'(by omega) = s.data.toList[0]'(by rw [hs]; simp) := rfl
    rw [e]; simp [hs]
  have b0 : (s[0]'(by omega)).toNat = k := by rw [s0, hk]
  have SIX : Hid (∀ p, (hp : p < 5) → 1 ≤ p → (s[p]'(by omega)).toNat < 256 ∧ readB (r.take p) = readB (r.take (p - 1)) * 256 + (s[p]'(by omega)).toNat) := by
    show ∀ p, (hp : p < 5) → 1 ≤ p → (s[p]'(by omega)).toNat < 256 ∧ readB (r.take p) = readB (r.take (p - 1)) * 256 + (s[p]'(by omega)).toNat
    intro p hp h1
    refine ⟨UInt8.toNat_lt _, ?_⟩
    obtain ⟨j, rfl⟩ : ∃ j, p = j + 1 := ⟨p - 1, by omega⟩
    have e : s[j + 1]'(by omega) = s.data.toList[j + 1]'(by rw [hs]; simp; omega) := rfl
    rw [e, Nat.add_sub_cancel, List.take_succ_eq_append_getElem (by omega), readB_snoc]
    congr 2
    simp [hs]
  have SUP : Hid (∀ p, p < 4 → readB (r.take p) < 16777216) := by
    show ∀ p, p < 4 → readB (r.take p) < 16777216
    intro p hp
    have q := readB_lt (r.take p)
    have e : (r.take p).length = p := by rw [List.length_take]; omega
    rw [e] at q
    obtain rfl | rfl | rfl | rfl : p = 0 ∨ p = 1 ∨ p = 2 ∨ p = 3 := by omega
    all_goals (refine Nat.lt_of_lt_of_le q ?_; decide)
  have SX : Hid (readB (r.take 4) = x) := by
    show readB (r.take 4) = x
    rw [List.take_of_length_le (by omega)]; exact hx
  clear hs hr hx s0 hk
  go_enter Tryz.func39, Tryz.ntmps39
  go_upto_region 2 with (first
    | (with_reducible refine wpList_run_val rfl 51 #[(0, .tmp 6)] rfl (ps := #[(0, .int .u8 (k : Int))]) rfl (buildKind _ _) ?_)
    | (with_reducible refine wpList_store_row rfl 51 (.tmp 3) (.tmp 7) rfl (w.heap.size + 1) (zM.setIfInBounds 0 (.int .u8 (k : Int))) rfl rfl 51 zM h0 (by kernel_rfl) rfl (oneKind _) ?_; obtain ⟨g1, h1⟩ := setRow_facts (zM.setIfInBounds 0 (.int .u8 (k : Int))) h0))
  have H1 := H0.turn (s := blkT (w.heap.size + 1) (zM.setIfInBounds 0 (.int .u8 (k : Int))) 51) g1 h1 (blk_stable _ _ _) (fun i m => ⟨.inl m, by simp only [List.mem_singleton] at m; subst m; exact (Array.getElem?_eq_some_iff.1 h1).1⟩)
  obtain ⟨W1, hW1⟩ : ∃ W1, World.setRow ((w.alloc (.cells zM 51)).alloc (.cells zM 51)) (w.heap.size + 1) (zM.setIfInBounds 0 (.int .u8 (k : Int))) = W1 := ⟨_, rfl⟩
  rw [hW1] at H1 ⊢
  obtain ⟨B, hB⟩ : ∃ B, w.heap.size = B := ⟨_, rfl⟩
  rw [hB] at H1 ⊢
  clear hW1 g1 h1 h0 H0 b0
  go_wp2
  go_loopw [8] (fun i wr => ∃ j : Nat, j ≤ 4 ∧ i = .int .i64 (j : Int) ∧ Own w wr [blkT (B + 1) (headM k (readB (r.take j))) 51, blkT B zM 51]) (fun i _ => 4 - (intOf i).toNat)
  case atStart => exact ⟨0, by omega, by simp, H1⟩
  case round =>
    obtain ⟨j, hj, hi, H⟩ := hrel
    obtain ⟨V, hV⟩ : ∃ V, readB (r.take j) = V := ⟨_, rfl⟩
    rw [hV] at H
    have hc := blk_cell H.head 1 (v := .int .u32 (V : Int)) rfl
    have hf := blk_free H.head 1
    have HH := Lib.hid H
    by_cases cj : j < 4
    · obtain ⟨p, hp⟩ : ∃ p : Nat, (1 : Int) + (j : Int) = (p : Int) := ⟨1 + j, by omega⟩
      have p5 : p < 5 := by omega
      obtain ⟨y8, yn⟩ := SIX.out p p5 (by omega)
      have v24 := SUP.out j cj
      rw [hV] at v24
      have YN : Hid (readB (r.take (j + 1)) = V * 256 + (s[p]'(by omega)).toNat) := by
        show _ = _
        rw [show j + 1 = p by omega, yn, show p - 1 = j by omega, hV]
      have j1 : (j : Int) < 4 := by omega
      have O : Hid (bits BinOp.or IntKind.u32 ((V : Int) * 256) ((s[p]'(by omega)).toNat : Int) = ((V * 256 + (s[p]'(by omega)).toNat : Nat) : Int)) := by
        show bits BinOp.or IntKind.u32 ((V : Int) * 256) ((s[p]'(by omega)).toNat : Int) = _
        have e := bits_or_u32_nat (V * 256) (s[p]'(by omega)).toNat (by omega) (by omega)
        rw [byte_or8 V _ y8] at e
        rw [← e]; simp
      clear H hV yn
      subst hi
      go_upto_region 5 with (fail)
      have wp : IntKind.i64.wrap (p : Int) = (p : Int) := by rw [IntKind.wrap_i64]; omega
      have wv : IntKind.u32.wrap ((V : Int) * 256) = (V : Int) * 256 := by rw [IntKind.wrap_u32]; omega
      have p0 : (0 : Int) ≤ (p : Int) := by omega
      have p1 : (p : Int) < 5 := by omega
      have ws : IntKind.u32.wrap ((s[p]'(by omega)).toNat : Int) = ((s[p]'(by omega)).toNat : Int) := by rw [IntKind.wrap_u32]; omega
      go_still_tail 10, (by kernel_rfl)
      change wpList _ _ _ _ _ wr.drew
      have H2 := HH.out.quiet (Wider.refl wr).drew
      have hf2 := blk_free H2.head 1
      have hc2 := blk_cell H2.head 1 (v := .int .u32 (V : Int)) rfl
      have H3 := H2.store 1 (.int .u32 ((V * 256 + (s[p]'(by omega)).toNat : Nat) : Int))
      rw [headM_set] at H3
      have H4 := Lib.hid H3
      rw [O.out]
      clear H2 H3 hc hf
      go_wp2
      go_roundw
      case rel => exact ⟨j + 1, by omega, by go_num, by rw [YN.out]; exact H4.out⟩
      case measure => simp [intOf]; omega
    · obtain rfl : j = 4 := by omega
      have hV4 : V = x := by rw [← hV]; exact SX.out
      subst hV4
      subst hi
      have h3 := HH.out.head
      have h2 := HH.out.second
      clear hV H
      go_wp2_with (first
        | (with_reducible refine wpList_load_row rfl 51 (.tmp 3) rfl (B + 1) rfl 51 (headM k V) (0, 0) _ h3 Tryz.underlying51 rfl (by kernel_rfl) ?_)
        | (with_reducible refine wpList_store_row rfl 51 (.tmp 2) (.tmp 22) rfl B (headM k V) rfl rfl 51 zM h2 (by kernel_rfl) rfl (oneHead _ _) ?_; obtain ⟨g5, h5⟩ := setRow_facts (headM k V) h2))
      have hl := run_loadVar_row (P := Tryz.prog) _ B 51 51 _ (0, 0) _ h5 Tryz.underlying51 rfl (by kernel_rfl)
      have W5 := g5.wider HH.out.wider (by intro i m; simp only [List.mem_singleton] at m; omega)
      simp [bodyPost, results, Tryz.results39, asAddr, hl]
      exact W5
end Go.Proofs.YtilpimilbjcifaaGreatDoor
