/- PSet -/
import Derived.Test.YtoopdhgmdjienaaGreatDoorPkR25
namespace Go.Proofs.YtoopdhgmdjienaaGreatDoor
set_option linter.unusedVariables false
set_option maxRecDepth 20000
open Go.ChangeShapes Go.WideShapes Go.ChangeAt Go.RowKit Go.Joins
open Go.ChangeMaps (open_string shut_string)
set_option maxHeartbeats 64000000
def RepK (b0:Nat) (w:World) (M:Array Value) (d:MsgD):Prop:=∀ W,Keeps b0 w W → RepD W M d
theorem RepK.on {b0:Nat} {W w:World} {M:Array Value} {d:MsgD} (h:RepK b0 W M d) (g:Keeps b0 W w):RepK b0 w M d:=fun W2 k => h W2 (g.trans k)
theorem RepK.here {b0:Nat} {w:World} {M:Array Value} {d:MsgD} (h:RepK b0 w M d):RepD w M d:=h w (Keeps.refl _ _)
def MsgD.setN (d:MsgD):Nat → PartN → MsgD
 | 0,.one (.num v) => { d with id:=v }
 | 1,.one (.num v) => { d with idx:=v }
 | 2,.one (.num v) => { d with code:=v }
 | 3,.one (.num v) => { d with port:=v }
 | 4,.one (.num v) => { d with tag:=v }
 | 5,.one (.num v) => { d with n:=v }
 | 6,.one (.num v) => { d with m:=v }
 | 7,.one (.txt v) => { d with data:=v }
 | 8,.one (.lst v) => { d with words:=v }
 | i + 9,.obj vs => { d with V:=fun j => if j = i then vs else d.V j }
 | _,_ => d
theorem RepA.head {w:World} {M N:Array Value} {V:Nat → List ValN} (h:RepA w M V) (hs:N.size = M.size) (he:∀ j,11 ≤ j → N[j]? = M[j]?):RepA w N V:=by
 have sM:=h.size
 have ex:∀ x y,11 ≤ x → y ≤ 52 → N.extract x y = M.extract x y:=fun x y hx hy => extract_same hs (by omega) fun j h1 _ => he j (by omega)
 exact ⟨by omega,by rw [ex 11 20 (by decide) (by decide)]; exact h.r0,by rw [ex 20 25 (by decide) (by decide)]; exact h.r1,by rw [ex 25 30 (by decide) (by decide)]; exact h.r2,by rw [ex 30 41 (by decide) (by decide)]; exact h.r3,by rw [ex 41 43 (by decide) (by decide)]; exact h.r4,by rw [ex 43 47 (by decide) (by decide)]; exact h.r5,by rw [ex 47 50 (by decide) (by decide)]; exact h.r6,by rw [ex 50 52 (by decide) (by decide)]; exact h.r7⟩
theorem RepA.setNode {w:World} {M:Array Value} {V:Nat → List ValN} (R:RepA w M V) {c:Array Value} {vs:List ValN} (h:RepNode w c vs):RepA w (setPart M 11 c) (fun j => if j = 0 then vs else V j):=by
 have sM:=R.size
 have hs:c.size = 9:=h.size
 have hl:11 + c.size ≤ M.size:=by rw [hs,sM]; decide
 exact ⟨by rw [setPart_size hl]; exact sM,by rw [setPart_self (by rw [hs]) hl]; exact h,by rw [setPart_apart hl (by rw [sM]; decide) (by rw [hs]; decide)]; exact R.r1,by rw [setPart_apart hl (by rw [sM]; decide) (by rw [hs]; decide)]; exact R.r2,by rw [setPart_apart hl (by rw [sM]; decide) (by rw [hs]; decide)]; exact R.r3,by rw [setPart_apart hl (by rw [sM]; decide) (by rw [hs]; decide)]; exact R.r4,by rw [setPart_apart hl (by rw [sM]; decide) (by rw [hs]; decide)]; exact R.r5,by rw [setPart_apart hl (by rw [sM]; decide) (by rw [hs]; decide)]; exact R.r6,by rw [setPart_apart hl (by rw [sM]; decide) (by rw [hs]; decide)]; exact R.r7⟩
theorem RepA.setField {w:World} {M:Array Value} {V:Nat → List ValN} (R:RepA w M V) {c:Array Value} {vs:List ValN} (h:RepField w c vs):RepA w (setPart M 20 c) (fun j => if j = 1 then vs else V j):=by
 have sM:=R.size
 have hs:c.size = 5:=h.size
 have hl:20 + c.size ≤ M.size:=by rw [hs,sM]; decide
 exact ⟨by rw [setPart_size hl]; exact sM,by rw [setPart_apart hl (by rw [sM]; decide) (by rw [hs]; decide)]; exact R.r0,by rw [setPart_self (by rw [hs]) hl]; exact h,by rw [setPart_apart hl (by rw [sM]; decide) (by rw [hs]; decide)]; exact R.r2,by rw [setPart_apart hl (by rw [sM]; decide) (by rw [hs]; decide)]; exact R.r3,by rw [setPart_apart hl (by rw [sM]; decide) (by rw [hs]; decide)]; exact R.r4,by rw [setPart_apart hl (by rw [sM]; decide) (by rw [hs]; decide)]; exact R.r5,by rw [setPart_apart hl (by rw [sM]; decide) (by rw [hs]; decide)]; exact R.r6,by rw [setPart_apart hl (by rw [sM]; decide) (by rw [hs]; decide)]; exact R.r7⟩
theorem RepA.setTable {w:World} {M:Array Value} {V:Nat → List ValN} (R:RepA w M V) {c:Array Value} {vs:List ValN} (h:RepTable w c vs):RepA w (setPart M 25 c) (fun j => if j = 2 then vs else V j):=by
 have sM:=R.size
 have hs:c.size = 5:=h.size
 have hl:25 + c.size ≤ M.size:=by rw [hs,sM]; decide
 exact ⟨by rw [setPart_size hl]; exact sM,by rw [setPart_apart hl (by rw [sM]; decide) (by rw [hs]; decide)]; exact R.r0,by rw [setPart_apart hl (by rw [sM]; decide) (by rw [hs]; decide)]; exact R.r1,by rw [setPart_self (by rw [hs]) hl]; exact h,by rw [setPart_apart hl (by rw [sM]; decide) (by rw [hs]; decide)]; exact R.r3,by rw [setPart_apart hl (by rw [sM]; decide) (by rw [hs]; decide)]; exact R.r4,by rw [setPart_apart hl (by rw [sM]; decide) (by rw [hs]; decide)]; exact R.r5,by rw [setPart_apart hl (by rw [sM]; decide) (by rw [hs]; decide)]; exact R.r6,by rw [setPart_apart hl (by rw [sM]; decide) (by rw [hs]; decide)]; exact R.r7⟩
theorem RepA.setEntry {w:World} {M:Array Value} {V:Nat → List ValN} (R:RepA w M V) {c:Array Value} {vs:List ValN} (h:RepEntry w c vs):RepA w (setPart M 30 c) (fun j => if j = 3 then vs else V j):=by
 have sM:=R.size
 have hs:c.size = 11:=h.size
 have hl:30 + c.size ≤ M.size:=by rw [hs,sM]; decide
 exact ⟨by rw [setPart_size hl]; exact sM,by rw [setPart_apart hl (by rw [sM]; decide) (by rw [hs]; decide)]; exact R.r0,by rw [setPart_apart hl (by rw [sM]; decide) (by rw [hs]; decide)]; exact R.r1,by rw [setPart_apart hl (by rw [sM]; decide) (by rw [hs]; decide)]; exact R.r2,by rw [setPart_self (by rw [hs]) hl]; exact h,by rw [setPart_apart hl (by rw [sM]; decide) (by rw [hs]; decide)]; exact R.r4,by rw [setPart_apart hl (by rw [sM]; decide) (by rw [hs]; decide)]; exact R.r5,by rw [setPart_apart hl (by rw [sM]; decide) (by rw [hs]; decide)]; exact R.r6,by rw [setPart_apart hl (by rw [sM]; decide) (by rw [hs]; decide)]; exact R.r7⟩
theorem RepA.setBlock {w:World} {M:Array Value} {V:Nat → List ValN} (R:RepA w M V) {c:Array Value} {vs:List ValN} (h:RepBlock w c vs):RepA w (setPart M 41 c) (fun j => if j = 4 then vs else V j):=by
 have sM:=R.size
 have hs:c.size = 2:=h.size
 have hl:41 + c.size ≤ M.size:=by rw [hs,sM]; decide
 exact ⟨by rw [setPart_size hl]; exact sM,by rw [setPart_apart hl (by rw [sM]; decide) (by rw [hs]; decide)]; exact R.r0,by rw [setPart_apart hl (by rw [sM]; decide) (by rw [hs]; decide)]; exact R.r1,by rw [setPart_apart hl (by rw [sM]; decide) (by rw [hs]; decide)]; exact R.r2,by rw [setPart_apart hl (by rw [sM]; decide) (by rw [hs]; decide)]; exact R.r3,by rw [setPart_self (by rw [hs]) hl]; exact h,by rw [setPart_apart hl (by rw [sM]; decide) (by rw [hs]; decide)]; exact R.r5,by rw [setPart_apart hl (by rw [sM]; decide) (by rw [hs]; decide)]; exact R.r6,by rw [setPart_apart hl (by rw [sM]; decide) (by rw [hs]; decide)]; exact R.r7⟩
theorem RepA.setGroup {w:World} {M:Array Value} {V:Nat → List ValN} (R:RepA w M V) {c:Array Value} {vs:List ValN} (h:RepGroup w c vs):RepA w (setPart M 43 c) (fun j => if j = 5 then vs else V j):=by
 have sM:=R.size
 have hs:c.size = 4:=h.size
 have hl:43 + c.size ≤ M.size:=by rw [hs,sM]; decide
 exact ⟨by rw [setPart_size hl]; exact sM,by rw [setPart_apart hl (by rw [sM]; decide) (by rw [hs]; decide)]; exact R.r0,by rw [setPart_apart hl (by rw [sM]; decide) (by rw [hs]; decide)]; exact R.r1,by rw [setPart_apart hl (by rw [sM]; decide) (by rw [hs]; decide)]; exact R.r2,by rw [setPart_apart hl (by rw [sM]; decide) (by rw [hs]; decide)]; exact R.r3,by rw [setPart_apart hl (by rw [sM]; decide) (by rw [hs]; decide)]; exact R.r4,by rw [setPart_self (by rw [hs]) hl]; exact h,by rw [setPart_apart hl (by rw [sM]; decide) (by rw [hs]; decide)]; exact R.r6,by rw [setPart_apart hl (by rw [sM]; decide) (by rw [hs]; decide)]; exact R.r7⟩
theorem RepA.setMeter {w:World} {M:Array Value} {V:Nat → List ValN} (R:RepA w M V) {c:Array Value} {vs:List ValN} (h:RepMeter w c vs):RepA w (setPart M 47 c) (fun j => if j = 6 then vs else V j):=by
 have sM:=R.size
 have hs:c.size = 3:=h.size
 have hl:47 + c.size ≤ M.size:=by rw [hs,sM]; decide
 exact ⟨by rw [setPart_size hl]; exact sM,by rw [setPart_apart hl (by rw [sM]; decide) (by rw [hs]; decide)]; exact R.r0,by rw [setPart_apart hl (by rw [sM]; decide) (by rw [hs]; decide)]; exact R.r1,by rw [setPart_apart hl (by rw [sM]; decide) (by rw [hs]; decide)]; exact R.r2,by rw [setPart_apart hl (by rw [sM]; decide) (by rw [hs]; decide)]; exact R.r3,by rw [setPart_apart hl (by rw [sM]; decide) (by rw [hs]; decide)]; exact R.r4,by rw [setPart_apart hl (by rw [sM]; decide) (by rw [hs]; decide)]; exact R.r5,by rw [setPart_self (by rw [hs]) hl]; exact h,by rw [setPart_apart hl (by rw [sM]; decide) (by rw [hs]; decide)]; exact R.r7⟩
theorem RepA.setRegs {w:World} {M:Array Value} {V:Nat → List ValN} (R:RepA w M V) {c:Array Value} {vs:List ValN} (h:RepRegs w c vs):RepA w (setPart M 50 c) (fun j => if j = 7 then vs else V j):=by
 have sM:=R.size
 have hs:c.size = 2:=h.size
 have hl:50 + c.size ≤ M.size:=by rw [hs,sM]; decide
 exact ⟨by rw [setPart_size hl]; exact sM,by rw [setPart_apart hl (by rw [sM]; decide) (by rw [hs]; decide)]; exact R.r0,by rw [setPart_apart hl (by rw [sM]; decide) (by rw [hs]; decide)]; exact R.r1,by rw [setPart_apart hl (by rw [sM]; decide) (by rw [hs]; decide)]; exact R.r2,by rw [setPart_apart hl (by rw [sM]; decide) (by rw [hs]; decide)]; exact R.r3,by rw [setPart_apart hl (by rw [sM]; decide) (by rw [hs]; decide)]; exact R.r4,by rw [setPart_apart hl (by rw [sM]; decide) (by rw [hs]; decide)]; exact R.r5,by rw [setPart_apart hl (by rw [sM]; decide) (by rw [hs]; decide)]; exact R.r6,by rw [setPart_self (by rw [hs]) hl]; exact h⟩
theorem RepD.set0 {w:World} {M:Array Value} {d:MsgD} (R:RepD w M d) (v:Int) (hv:(Lit.int .i64 v).wf = true):RepD w (M.setIfInBounds 2 (.int .i64 v)) (d.setN 0 (.one (.num v))):=by
 have sM:=R.size
 have hh:∀ j,j ≠ 2 → j < 52 → (M.setIfInBounds 2 (.int .i64 v))[j]? = M[j]? :=fun j h1 _ => Array.getElem?_setIfInBounds_ne (Ne.symm h1)
 have hc:(M.setIfInBounds 2 (.int .i64 v))[2]? = some (.int .i64 v):=by rw [Array.getElem?_setIfInBounds_self]; rw [if_pos (by omega)]
 have ra:RepA w (M.setIfInBounds 2 (.int .i64 v)) d.V:=R.A.head (by simp) (fun j hj => Array.getElem?_setIfInBounds_ne (by omega))
 exact ⟨ra,by rw [hh 0 (by decide) (by decide)]; exact R.c0,R.w0,by rw [hh 1 (by decide) (by decide)]; exact R.c1,R.w1,hc,hv,by rw [hh 3 (by decide) (by decide)]; exact R.c3,R.w3,by rw [hh 4 (by decide) (by decide)]; exact R.c4,R.w4,by rw [hh 5 (by decide) (by decide)]; exact R.c5,R.w5,by rw [hh 6 (by decide) (by decide)]; exact R.c6,R.w6,by rw [hh 7 (by decide) (by decide)]; exact R.c7,R.w7,by rw [hh 8 (by decide) (by decide)]; exact R.c8,R.w8,by rw [hh 9 (by decide) (by decide)]; exact R.c9,R.w9,by obtain ⟨v,A,n,cap,e,r⟩:=R.c10; exact ⟨v,A,n,cap,by rw [hh 10 (by decide) (by decide)]; exact e,r⟩⟩
theorem RepD.set1 {w:World} {M:Array Value} {d:MsgD} (R:RepD w M d) (v:Int) (hv:(Lit.int .i64 v).wf = true):RepD w (M.setIfInBounds 3 (.int .i64 v)) (d.setN 1 (.one (.num v))):=by
 have sM:=R.size
 have hh:∀ j,j ≠ 3 → j < 52 → (M.setIfInBounds 3 (.int .i64 v))[j]? = M[j]? :=fun j h1 _ => Array.getElem?_setIfInBounds_ne (Ne.symm h1)
 have hc:(M.setIfInBounds 3 (.int .i64 v))[3]? = some (.int .i64 v):=by rw [Array.getElem?_setIfInBounds_self]; rw [if_pos (by omega)]
 have ra:RepA w (M.setIfInBounds 3 (.int .i64 v)) d.V:=R.A.head (by simp) (fun j hj => Array.getElem?_setIfInBounds_ne (by omega))
 exact ⟨ra,by rw [hh 0 (by decide) (by decide)]; exact R.c0,R.w0,by rw [hh 1 (by decide) (by decide)]; exact R.c1,R.w1,by rw [hh 2 (by decide) (by decide)]; exact R.c2,R.w2,hc,hv,by rw [hh 4 (by decide) (by decide)]; exact R.c4,R.w4,by rw [hh 5 (by decide) (by decide)]; exact R.c5,R.w5,by rw [hh 6 (by decide) (by decide)]; exact R.c6,R.w6,by rw [hh 7 (by decide) (by decide)]; exact R.c7,R.w7,by rw [hh 8 (by decide) (by decide)]; exact R.c8,R.w8,by rw [hh 9 (by decide) (by decide)]; exact R.c9,R.w9,by obtain ⟨v,A,n,cap,e,r⟩:=R.c10; exact ⟨v,A,n,cap,by rw [hh 10 (by decide) (by decide)]; exact e,r⟩⟩
theorem RepD.set2 {w:World} {M:Array Value} {d:MsgD} (R:RepD w M d) (v:Int) (hv:(Lit.int .i64 v).wf = true):RepD w (M.setIfInBounds 4 (.int .i64 v)) (d.setN 2 (.one (.num v))):=by
 have sM:=R.size
 have hh:∀ j,j ≠ 4 → j < 52 → (M.setIfInBounds 4 (.int .i64 v))[j]? = M[j]? :=fun j h1 _ => Array.getElem?_setIfInBounds_ne (Ne.symm h1)
 have hc:(M.setIfInBounds 4 (.int .i64 v))[4]? = some (.int .i64 v):=by rw [Array.getElem?_setIfInBounds_self]; rw [if_pos (by omega)]
 have ra:RepA w (M.setIfInBounds 4 (.int .i64 v)) d.V:=R.A.head (by simp) (fun j hj => Array.getElem?_setIfInBounds_ne (by omega))
 exact ⟨ra,by rw [hh 0 (by decide) (by decide)]; exact R.c0,R.w0,by rw [hh 1 (by decide) (by decide)]; exact R.c1,R.w1,by rw [hh 2 (by decide) (by decide)]; exact R.c2,R.w2,by rw [hh 3 (by decide) (by decide)]; exact R.c3,R.w3,hc,hv,by rw [hh 5 (by decide) (by decide)]; exact R.c5,R.w5,by rw [hh 6 (by decide) (by decide)]; exact R.c6,R.w6,by rw [hh 7 (by decide) (by decide)]; exact R.c7,R.w7,by rw [hh 8 (by decide) (by decide)]; exact R.c8,R.w8,by rw [hh 9 (by decide) (by decide)]; exact R.c9,R.w9,by obtain ⟨v,A,n,cap,e,r⟩:=R.c10; exact ⟨v,A,n,cap,by rw [hh 10 (by decide) (by decide)]; exact e,r⟩⟩
theorem RepD.set3 {w:World} {M:Array Value} {d:MsgD} (R:RepD w M d) (v:Int) (hv:(Lit.int .i64 v).wf = true):RepD w (M.setIfInBounds 5 (.int .i64 v)) (d.setN 3 (.one (.num v))):=by
 have sM:=R.size
 have hh:∀ j,j ≠ 5 → j < 52 → (M.setIfInBounds 5 (.int .i64 v))[j]? = M[j]? :=fun j h1 _ => Array.getElem?_setIfInBounds_ne (Ne.symm h1)
 have hc:(M.setIfInBounds 5 (.int .i64 v))[5]? = some (.int .i64 v):=by rw [Array.getElem?_setIfInBounds_self]; rw [if_pos (by omega)]
 have ra:RepA w (M.setIfInBounds 5 (.int .i64 v)) d.V:=R.A.head (by simp) (fun j hj => Array.getElem?_setIfInBounds_ne (by omega))
 exact ⟨ra,by rw [hh 0 (by decide) (by decide)]; exact R.c0,R.w0,by rw [hh 1 (by decide) (by decide)]; exact R.c1,R.w1,by rw [hh 2 (by decide) (by decide)]; exact R.c2,R.w2,by rw [hh 3 (by decide) (by decide)]; exact R.c3,R.w3,by rw [hh 4 (by decide) (by decide)]; exact R.c4,R.w4,hc,hv,by rw [hh 6 (by decide) (by decide)]; exact R.c6,R.w6,by rw [hh 7 (by decide) (by decide)]; exact R.c7,R.w7,by rw [hh 8 (by decide) (by decide)]; exact R.c8,R.w8,by rw [hh 9 (by decide) (by decide)]; exact R.c9,R.w9,by obtain ⟨v,A,n,cap,e,r⟩:=R.c10; exact ⟨v,A,n,cap,by rw [hh 10 (by decide) (by decide)]; exact e,r⟩⟩
theorem RepD.set4 {w:World} {M:Array Value} {d:MsgD} (R:RepD w M d) (v:Int) (hv:(Lit.int .i64 v).wf = true):RepD w (M.setIfInBounds 6 (.int .i64 v)) (d.setN 4 (.one (.num v))):=by
 have sM:=R.size
 have hh:∀ j,j ≠ 6 → j < 52 → (M.setIfInBounds 6 (.int .i64 v))[j]? = M[j]? :=fun j h1 _ => Array.getElem?_setIfInBounds_ne (Ne.symm h1)
 have hc:(M.setIfInBounds 6 (.int .i64 v))[6]? = some (.int .i64 v):=by rw [Array.getElem?_setIfInBounds_self]; rw [if_pos (by omega)]
 have ra:RepA w (M.setIfInBounds 6 (.int .i64 v)) d.V:=R.A.head (by simp) (fun j hj => Array.getElem?_setIfInBounds_ne (by omega))
 exact ⟨ra,by rw [hh 0 (by decide) (by decide)]; exact R.c0,R.w0,by rw [hh 1 (by decide) (by decide)]; exact R.c1,R.w1,by rw [hh 2 (by decide) (by decide)]; exact R.c2,R.w2,by rw [hh 3 (by decide) (by decide)]; exact R.c3,R.w3,by rw [hh 4 (by decide) (by decide)]; exact R.c4,R.w4,by rw [hh 5 (by decide) (by decide)]; exact R.c5,R.w5,hc,hv,by rw [hh 7 (by decide) (by decide)]; exact R.c7,R.w7,by rw [hh 8 (by decide) (by decide)]; exact R.c8,R.w8,by rw [hh 9 (by decide) (by decide)]; exact R.c9,R.w9,by obtain ⟨v,A,n,cap,e,r⟩:=R.c10; exact ⟨v,A,n,cap,by rw [hh 10 (by decide) (by decide)]; exact e,r⟩⟩
theorem RepD.set5 {w:World} {M:Array Value} {d:MsgD} (R:RepD w M d) (v:Int) (hv:(Lit.int .u64 v).wf = true):RepD w (M.setIfInBounds 7 (.int .u64 v)) (d.setN 5 (.one (.num v))):=by
 have sM:=R.size
 have hh:∀ j,j ≠ 7 → j < 52 → (M.setIfInBounds 7 (.int .u64 v))[j]? = M[j]? :=fun j h1 _ => Array.getElem?_setIfInBounds_ne (Ne.symm h1)
 have hc:(M.setIfInBounds 7 (.int .u64 v))[7]? = some (.int .u64 v):=by rw [Array.getElem?_setIfInBounds_self]; rw [if_pos (by omega)]
 have ra:RepA w (M.setIfInBounds 7 (.int .u64 v)) d.V:=R.A.head (by simp) (fun j hj => Array.getElem?_setIfInBounds_ne (by omega))
 exact ⟨ra,by rw [hh 0 (by decide) (by decide)]; exact R.c0,R.w0,by rw [hh 1 (by decide) (by decide)]; exact R.c1,R.w1,by rw [hh 2 (by decide) (by decide)]; exact R.c2,R.w2,by rw [hh 3 (by decide) (by decide)]; exact R.c3,R.w3,by rw [hh 4 (by decide) (by decide)]; exact R.c4,R.w4,by rw [hh 5 (by decide) (by decide)]; exact R.c5,R.w5,by rw [hh 6 (by decide) (by decide)]; exact R.c6,R.w6,hc,hv,by rw [hh 8 (by decide) (by decide)]; exact R.c8,R.w8,by rw [hh 9 (by decide) (by decide)]; exact R.c9,R.w9,by obtain ⟨v,A,n,cap,e,r⟩:=R.c10; exact ⟨v,A,n,cap,by rw [hh 10 (by decide) (by decide)]; exact e,r⟩⟩
theorem RepD.set6 {w:World} {M:Array Value} {d:MsgD} (R:RepD w M d) (v:Int) (hv:(Lit.int .u64 v).wf = true):RepD w (M.setIfInBounds 8 (.int .u64 v)) (d.setN 6 (.one (.num v))):=by
 have sM:=R.size
 have hh:∀ j,j ≠ 8 → j < 52 → (M.setIfInBounds 8 (.int .u64 v))[j]? = M[j]? :=fun j h1 _ => Array.getElem?_setIfInBounds_ne (Ne.symm h1)
 have hc:(M.setIfInBounds 8 (.int .u64 v))[8]? = some (.int .u64 v):=by rw [Array.getElem?_setIfInBounds_self]; rw [if_pos (by omega)]
 have ra:RepA w (M.setIfInBounds 8 (.int .u64 v)) d.V:=R.A.head (by simp) (fun j hj => Array.getElem?_setIfInBounds_ne (by omega))
 exact ⟨ra,by rw [hh 0 (by decide) (by decide)]; exact R.c0,R.w0,by rw [hh 1 (by decide) (by decide)]; exact R.c1,R.w1,by rw [hh 2 (by decide) (by decide)]; exact R.c2,R.w2,by rw [hh 3 (by decide) (by decide)]; exact R.c3,R.w3,by rw [hh 4 (by decide) (by decide)]; exact R.c4,R.w4,by rw [hh 5 (by decide) (by decide)]; exact R.c5,R.w5,by rw [hh 6 (by decide) (by decide)]; exact R.c6,R.w6,by rw [hh 7 (by decide) (by decide)]; exact R.c7,R.w7,hc,hv,by rw [hh 9 (by decide) (by decide)]; exact R.c9,R.w9,by obtain ⟨v,A,n,cap,e,r⟩:=R.c10; exact ⟨v,A,n,cap,by rw [hh 10 (by decide) (by decide)]; exact e,r⟩⟩
theorem RepD.set7 {w:World} {M:Array Value} {d:MsgD} (R:RepD w M d) (s:ByteArray) (hs:s.size ≤ maxLen):RepD w (M.setIfInBounds 9 (.string s)) (d.setN 7 (.one (.txt s))):=by
 have sM:=R.size
 have hh:∀ j,j ≠ 9 → j < 52 → (M.setIfInBounds 9 (.string s))[j]? = M[j]? :=fun j h1 _ => Array.getElem?_setIfInBounds_ne (Ne.symm h1)
 have hc:(M.setIfInBounds 9 (.string s))[9]? = some (.string s):=by rw [Array.getElem?_setIfInBounds_self]; rw [if_pos (by omega)]
 have ra:RepA w (M.setIfInBounds 9 (.string s)) d.V:=R.A.head (by simp) (fun j hj => Array.getElem?_setIfInBounds_ne (by omega))
 exact ⟨ra,by rw [hh 0 (by decide) (by decide)]; exact R.c0,R.w0,by rw [hh 1 (by decide) (by decide)]; exact R.c1,R.w1,by rw [hh 2 (by decide) (by decide)]; exact R.c2,R.w2,by rw [hh 3 (by decide) (by decide)]; exact R.c3,R.w3,by rw [hh 4 (by decide) (by decide)]; exact R.c4,R.w4,by rw [hh 5 (by decide) (by decide)]; exact R.c5,R.w5,by rw [hh 6 (by decide) (by decide)]; exact R.c6,R.w6,by rw [hh 7 (by decide) (by decide)]; exact R.c7,R.w7,by rw [hh 8 (by decide) (by decide)]; exact R.c8,R.w8,hc,hs,by obtain ⟨v,A,n,cap,e,r⟩:=R.c10; exact ⟨v,A,n,cap,by rw [hh 10 (by decide) (by decide)]; exact e,r⟩⟩
theorem RepD.set8 {w:World} {M:Array Value} {d:MsgD} (R:RepD w M d) {v:Value} {L:List (List Int)} {A:Option Addr} {n cap:Nat} (h:RowW w v L A n cap):RepD w (M.setIfInBounds 10 v) (d.setN 8 (.one (.lst L))):=by
 have sM:=R.size
 have hh:∀ j,j ≠ 10 → j < 52 → (M.setIfInBounds 10 v)[j]? = M[j]? :=fun j h1 _ => Array.getElem?_setIfInBounds_ne (Ne.symm h1)
 have hc:(M.setIfInBounds 10 v)[10]? = some v:=by rw [Array.getElem?_setIfInBounds_self]; rw [if_pos (by omega)]
 have ra:RepA w (M.setIfInBounds 10 v) d.V:=R.A.head (by simp) (fun j hj => Array.getElem?_setIfInBounds_ne (by omega))
 exact ⟨ra,by rw [hh 0 (by decide) (by decide)]; exact R.c0,R.w0,by rw [hh 1 (by decide) (by decide)]; exact R.c1,R.w1,by rw [hh 2 (by decide) (by decide)]; exact R.c2,R.w2,by rw [hh 3 (by decide) (by decide)]; exact R.c3,R.w3,by rw [hh 4 (by decide) (by decide)]; exact R.c4,R.w4,by rw [hh 5 (by decide) (by decide)]; exact R.c5,R.w5,by rw [hh 6 (by decide) (by decide)]; exact R.c6,R.w6,by rw [hh 7 (by decide) (by decide)]; exact R.c7,R.w7,by rw [hh 8 (by decide) (by decide)]; exact R.c8,R.w8,by rw [hh 9 (by decide) (by decide)]; exact R.c9,R.w9,⟨v,A,n,cap,hc,h⟩⟩
theorem RepD.set9 {w:World} {M:Array Value} {d:MsgD} (R:RepD w M d) {c:Array Value} {vs:List ValN} (h:RepNode w c vs):RepD w (setPart M 11 c) (d.setN 9 (.obj vs)):=by
 have sM:=R.size
 have hs:c.size = 9:=h.size
 have hl:11 + c.size ≤ M.size:=by rw [hs,sM]; decide
 have hh:∀ j,j ≠ 52 → j < 11 → (setPart M 11 c)[j]? = M[j]? :=fun j _ h1 => by rw [setPart_get hl,if_neg (by omega)]
 have ra:=R.A.setNode h
 exact ⟨ra,by rw [hh 0 (by decide) (by decide)]; exact R.c0,R.w0,by rw [hh 1 (by decide) (by decide)]; exact R.c1,R.w1,by rw [hh 2 (by decide) (by decide)]; exact R.c2,R.w2,by rw [hh 3 (by decide) (by decide)]; exact R.c3,R.w3,by rw [hh 4 (by decide) (by decide)]; exact R.c4,R.w4,by rw [hh 5 (by decide) (by decide)]; exact R.c5,R.w5,by rw [hh 6 (by decide) (by decide)]; exact R.c6,R.w6,by rw [hh 7 (by decide) (by decide)]; exact R.c7,R.w7,by rw [hh 8 (by decide) (by decide)]; exact R.c8,R.w8,by rw [hh 9 (by decide) (by decide)]; exact R.c9,R.w9,by obtain ⟨v,A,n,cap,e,r⟩:=R.c10; exact ⟨v,A,n,cap,by rw [hh 10 (by decide) (by decide)]; exact e,r⟩⟩
theorem RepD.set10 {w:World} {M:Array Value} {d:MsgD} (R:RepD w M d) {c:Array Value} {vs:List ValN} (h:RepField w c vs):RepD w (setPart M 20 c) (d.setN 10 (.obj vs)):=by
 have sM:=R.size
 have hs:c.size = 5:=h.size
 have hl:20 + c.size ≤ M.size:=by rw [hs,sM]; decide
 have hh:∀ j,j ≠ 52 → j < 11 → (setPart M 20 c)[j]? = M[j]? :=fun j _ h1 => by rw [setPart_get hl,if_neg (by omega)]
 have ra:=R.A.setField h
 exact ⟨ra,by rw [hh 0 (by decide) (by decide)]; exact R.c0,R.w0,by rw [hh 1 (by decide) (by decide)]; exact R.c1,R.w1,by rw [hh 2 (by decide) (by decide)]; exact R.c2,R.w2,by rw [hh 3 (by decide) (by decide)]; exact R.c3,R.w3,by rw [hh 4 (by decide) (by decide)]; exact R.c4,R.w4,by rw [hh 5 (by decide) (by decide)]; exact R.c5,R.w5,by rw [hh 6 (by decide) (by decide)]; exact R.c6,R.w6,by rw [hh 7 (by decide) (by decide)]; exact R.c7,R.w7,by rw [hh 8 (by decide) (by decide)]; exact R.c8,R.w8,by rw [hh 9 (by decide) (by decide)]; exact R.c9,R.w9,by obtain ⟨v,A,n,cap,e,r⟩:=R.c10; exact ⟨v,A,n,cap,by rw [hh 10 (by decide) (by decide)]; exact e,r⟩⟩
theorem RepD.set11 {w:World} {M:Array Value} {d:MsgD} (R:RepD w M d) {c:Array Value} {vs:List ValN} (h:RepTable w c vs):RepD w (setPart M 25 c) (d.setN 11 (.obj vs)):=by
 have sM:=R.size
 have hs:c.size = 5:=h.size
 have hl:25 + c.size ≤ M.size:=by rw [hs,sM]; decide
 have hh:∀ j,j ≠ 52 → j < 11 → (setPart M 25 c)[j]? = M[j]? :=fun j _ h1 => by rw [setPart_get hl,if_neg (by omega)]
 have ra:=R.A.setTable h
 exact ⟨ra,by rw [hh 0 (by decide) (by decide)]; exact R.c0,R.w0,by rw [hh 1 (by decide) (by decide)]; exact R.c1,R.w1,by rw [hh 2 (by decide) (by decide)]; exact R.c2,R.w2,by rw [hh 3 (by decide) (by decide)]; exact R.c3,R.w3,by rw [hh 4 (by decide) (by decide)]; exact R.c4,R.w4,by rw [hh 5 (by decide) (by decide)]; exact R.c5,R.w5,by rw [hh 6 (by decide) (by decide)]; exact R.c6,R.w6,by rw [hh 7 (by decide) (by decide)]; exact R.c7,R.w7,by rw [hh 8 (by decide) (by decide)]; exact R.c8,R.w8,by rw [hh 9 (by decide) (by decide)]; exact R.c9,R.w9,by obtain ⟨v,A,n,cap,e,r⟩:=R.c10; exact ⟨v,A,n,cap,by rw [hh 10 (by decide) (by decide)]; exact e,r⟩⟩
theorem RepD.set12 {w:World} {M:Array Value} {d:MsgD} (R:RepD w M d) {c:Array Value} {vs:List ValN} (h:RepEntry w c vs):RepD w (setPart M 30 c) (d.setN 12 (.obj vs)):=by
 have sM:=R.size
 have hs:c.size = 11:=h.size
 have hl:30 + c.size ≤ M.size:=by rw [hs,sM]; decide
 have hh:∀ j,j ≠ 52 → j < 11 → (setPart M 30 c)[j]? = M[j]? :=fun j _ h1 => by rw [setPart_get hl,if_neg (by omega)]
 have ra:=R.A.setEntry h
 exact ⟨ra,by rw [hh 0 (by decide) (by decide)]; exact R.c0,R.w0,by rw [hh 1 (by decide) (by decide)]; exact R.c1,R.w1,by rw [hh 2 (by decide) (by decide)]; exact R.c2,R.w2,by rw [hh 3 (by decide) (by decide)]; exact R.c3,R.w3,by rw [hh 4 (by decide) (by decide)]; exact R.c4,R.w4,by rw [hh 5 (by decide) (by decide)]; exact R.c5,R.w5,by rw [hh 6 (by decide) (by decide)]; exact R.c6,R.w6,by rw [hh 7 (by decide) (by decide)]; exact R.c7,R.w7,by rw [hh 8 (by decide) (by decide)]; exact R.c8,R.w8,by rw [hh 9 (by decide) (by decide)]; exact R.c9,R.w9,by obtain ⟨v,A,n,cap,e,r⟩:=R.c10; exact ⟨v,A,n,cap,by rw [hh 10 (by decide) (by decide)]; exact e,r⟩⟩
theorem RepD.set13 {w:World} {M:Array Value} {d:MsgD} (R:RepD w M d) {c:Array Value} {vs:List ValN} (h:RepBlock w c vs):RepD w (setPart M 41 c) (d.setN 13 (.obj vs)):=by
 have sM:=R.size
 have hs:c.size = 2:=h.size
 have hl:41 + c.size ≤ M.size:=by rw [hs,sM]; decide
 have hh:∀ j,j ≠ 52 → j < 11 → (setPart M 41 c)[j]? = M[j]? :=fun j _ h1 => by rw [setPart_get hl,if_neg (by omega)]
 have ra:=R.A.setBlock h
 exact ⟨ra,by rw [hh 0 (by decide) (by decide)]; exact R.c0,R.w0,by rw [hh 1 (by decide) (by decide)]; exact R.c1,R.w1,by rw [hh 2 (by decide) (by decide)]; exact R.c2,R.w2,by rw [hh 3 (by decide) (by decide)]; exact R.c3,R.w3,by rw [hh 4 (by decide) (by decide)]; exact R.c4,R.w4,by rw [hh 5 (by decide) (by decide)]; exact R.c5,R.w5,by rw [hh 6 (by decide) (by decide)]; exact R.c6,R.w6,by rw [hh 7 (by decide) (by decide)]; exact R.c7,R.w7,by rw [hh 8 (by decide) (by decide)]; exact R.c8,R.w8,by rw [hh 9 (by decide) (by decide)]; exact R.c9,R.w9,by obtain ⟨v,A,n,cap,e,r⟩:=R.c10; exact ⟨v,A,n,cap,by rw [hh 10 (by decide) (by decide)]; exact e,r⟩⟩
theorem RepD.set14 {w:World} {M:Array Value} {d:MsgD} (R:RepD w M d) {c:Array Value} {vs:List ValN} (h:RepGroup w c vs):RepD w (setPart M 43 c) (d.setN 14 (.obj vs)):=by
 have sM:=R.size
 have hs:c.size = 4:=h.size
 have hl:43 + c.size ≤ M.size:=by rw [hs,sM]; decide
 have hh:∀ j,j ≠ 52 → j < 11 → (setPart M 43 c)[j]? = M[j]? :=fun j _ h1 => by rw [setPart_get hl,if_neg (by omega)]
 have ra:=R.A.setGroup h
 exact ⟨ra,by rw [hh 0 (by decide) (by decide)]; exact R.c0,R.w0,by rw [hh 1 (by decide) (by decide)]; exact R.c1,R.w1,by rw [hh 2 (by decide) (by decide)]; exact R.c2,R.w2,by rw [hh 3 (by decide) (by decide)]; exact R.c3,R.w3,by rw [hh 4 (by decide) (by decide)]; exact R.c4,R.w4,by rw [hh 5 (by decide) (by decide)]; exact R.c5,R.w5,by rw [hh 6 (by decide) (by decide)]; exact R.c6,R.w6,by rw [hh 7 (by decide) (by decide)]; exact R.c7,R.w7,by rw [hh 8 (by decide) (by decide)]; exact R.c8,R.w8,by rw [hh 9 (by decide) (by decide)]; exact R.c9,R.w9,by obtain ⟨v,A,n,cap,e,r⟩:=R.c10; exact ⟨v,A,n,cap,by rw [hh 10 (by decide) (by decide)]; exact e,r⟩⟩
theorem RepD.set15 {w:World} {M:Array Value} {d:MsgD} (R:RepD w M d) {c:Array Value} {vs:List ValN} (h:RepMeter w c vs):RepD w (setPart M 47 c) (d.setN 15 (.obj vs)):=by
 have sM:=R.size
 have hs:c.size = 3:=h.size
 have hl:47 + c.size ≤ M.size:=by rw [hs,sM]; decide
 have hh:∀ j,j ≠ 52 → j < 11 → (setPart M 47 c)[j]? = M[j]? :=fun j _ h1 => by rw [setPart_get hl,if_neg (by omega)]
 have ra:=R.A.setMeter h
 exact ⟨ra,by rw [hh 0 (by decide) (by decide)]; exact R.c0,R.w0,by rw [hh 1 (by decide) (by decide)]; exact R.c1,R.w1,by rw [hh 2 (by decide) (by decide)]; exact R.c2,R.w2,by rw [hh 3 (by decide) (by decide)]; exact R.c3,R.w3,by rw [hh 4 (by decide) (by decide)]; exact R.c4,R.w4,by rw [hh 5 (by decide) (by decide)]; exact R.c5,R.w5,by rw [hh 6 (by decide) (by decide)]; exact R.c6,R.w6,by rw [hh 7 (by decide) (by decide)]; exact R.c7,R.w7,by rw [hh 8 (by decide) (by decide)]; exact R.c8,R.w8,by rw [hh 9 (by decide) (by decide)]; exact R.c9,R.w9,by obtain ⟨v,A,n,cap,e,r⟩:=R.c10; exact ⟨v,A,n,cap,by rw [hh 10 (by decide) (by decide)]; exact e,r⟩⟩
theorem RepD.set16 {w:World} {M:Array Value} {d:MsgD} (R:RepD w M d) {c:Array Value} {vs:List ValN} (h:RepRegs w c vs):RepD w (setPart M 50 c) (d.setN 16 (.obj vs)):=by
 have sM:=R.size
 have hs:c.size = 2:=h.size
 have hl:50 + c.size ≤ M.size:=by rw [hs,sM]; decide
 have hh:∀ j,j ≠ 52 → j < 11 → (setPart M 50 c)[j]? = M[j]? :=fun j _ h1 => by rw [setPart_get hl,if_neg (by omega)]
 have ra:=R.A.setRegs h
 exact ⟨ra,by rw [hh 0 (by decide) (by decide)]; exact R.c0,R.w0,by rw [hh 1 (by decide) (by decide)]; exact R.c1,R.w1,by rw [hh 2 (by decide) (by decide)]; exact R.c2,R.w2,by rw [hh 3 (by decide) (by decide)]; exact R.c3,R.w3,by rw [hh 4 (by decide) (by decide)]; exact R.c4,R.w4,by rw [hh 5 (by decide) (by decide)]; exact R.c5,R.w5,by rw [hh 6 (by decide) (by decide)]; exact R.c6,R.w6,by rw [hh 7 (by decide) (by decide)]; exact R.c7,R.w7,by rw [hh 8 (by decide) (by decide)]; exact R.c8,R.w8,by rw [hh 9 (by decide) (by decide)]; exact R.c9,R.w9,by obtain ⟨v,A,n,cap,e,r⟩:=R.c10; exact ⟨v,A,n,cap,by rw [hh 10 (by decide) (by decide)]; exact e,r⟩⟩
theorem setN_ps (d:MsgD) (i:Nat) (p:PartN) (hi:i < 17) (hp:∀ q,d.ps[i]? = some q → (∃ v,p = .one (.num v) ∧ ∃ u,q = .one (.num u)) ∨ (∃ v,p = .one (.txt v) ∧ ∃ u,q = .one (.txt u)) ∨ (∃ v,p = .one (.lst v) ∧ ∃ u,q = .one (.lst u)) ∨ (∃ v,p = .obj v ∧ ∃ u,q = .obj u)):(d.setN i p).ps = d.ps.set i p ∧ (d.setN i p).kind = d.kind ∧ (d.setN i p).xid = d.xid:=by
 have q:=hp _ (List.getElem?_eq_getElem (by rw [ps_length]; exact hi))
 match i,hi with
 | 0,_ =>
   rcases q with ⟨v,rfl,u,e⟩ | ⟨v,rfl,u,e⟩ | ⟨v,rfl,u,e⟩ | ⟨v,rfl,u,e⟩ <;> first | exact ⟨rfl,rfl,rfl⟩ | (simp [MsgD.ps] at e)
 | 1,_ =>
   rcases q with ⟨v,rfl,u,e⟩ | ⟨v,rfl,u,e⟩ | ⟨v,rfl,u,e⟩ | ⟨v,rfl,u,e⟩ <;> first | exact ⟨rfl,rfl,rfl⟩ | (simp [MsgD.ps] at e)
 | 2,_ =>
   rcases q with ⟨v,rfl,u,e⟩ | ⟨v,rfl,u,e⟩ | ⟨v,rfl,u,e⟩ | ⟨v,rfl,u,e⟩ <;> first | exact ⟨rfl,rfl,rfl⟩ | (simp [MsgD.ps] at e)
 | 3,_ =>
   rcases q with ⟨v,rfl,u,e⟩ | ⟨v,rfl,u,e⟩ | ⟨v,rfl,u,e⟩ | ⟨v,rfl,u,e⟩ <;> first | exact ⟨rfl,rfl,rfl⟩ | (simp [MsgD.ps] at e)
 | 4,_ =>
   rcases q with ⟨v,rfl,u,e⟩ | ⟨v,rfl,u,e⟩ | ⟨v,rfl,u,e⟩ | ⟨v,rfl,u,e⟩ <;> first | exact ⟨rfl,rfl,rfl⟩ | (simp [MsgD.ps] at e)
 | 5,_ =>
   rcases q with ⟨v,rfl,u,e⟩ | ⟨v,rfl,u,e⟩ | ⟨v,rfl,u,e⟩ | ⟨v,rfl,u,e⟩ <;> first | exact ⟨rfl,rfl,rfl⟩ | (simp [MsgD.ps] at e)
 | 6,_ =>
   rcases q with ⟨v,rfl,u,e⟩ | ⟨v,rfl,u,e⟩ | ⟨v,rfl,u,e⟩ | ⟨v,rfl,u,e⟩ <;> first | exact ⟨rfl,rfl,rfl⟩ | (simp [MsgD.ps] at e)
 | 7,_ =>
   rcases q with ⟨v,rfl,u,e⟩ | ⟨v,rfl,u,e⟩ | ⟨v,rfl,u,e⟩ | ⟨v,rfl,u,e⟩ <;> first | exact ⟨rfl,rfl,rfl⟩ | (simp [MsgD.ps] at e)
 | 8,_ =>
   rcases q with ⟨v,rfl,u,e⟩ | ⟨v,rfl,u,e⟩ | ⟨v,rfl,u,e⟩ | ⟨v,rfl,u,e⟩ <;> first | exact ⟨rfl,rfl,rfl⟩ | (simp [MsgD.ps] at e)
 | 9,_ =>
   rcases q with ⟨v,rfl,u,e⟩ | ⟨v,rfl,u,e⟩ | ⟨v,rfl,u,e⟩ | ⟨v,rfl,u,e⟩ <;> first | exact ⟨rfl,rfl,rfl⟩ | (simp [MsgD.ps] at e)
 | 10,_ =>
   rcases q with ⟨v,rfl,u,e⟩ | ⟨v,rfl,u,e⟩ | ⟨v,rfl,u,e⟩ | ⟨v,rfl,u,e⟩ <;> first | exact ⟨rfl,rfl,rfl⟩ | (simp [MsgD.ps] at e)
 | 11,_ =>
   rcases q with ⟨v,rfl,u,e⟩ | ⟨v,rfl,u,e⟩ | ⟨v,rfl,u,e⟩ | ⟨v,rfl,u,e⟩ <;> first | exact ⟨rfl,rfl,rfl⟩ | (simp [MsgD.ps] at e)
 | 12,_ =>
   rcases q with ⟨v,rfl,u,e⟩ | ⟨v,rfl,u,e⟩ | ⟨v,rfl,u,e⟩ | ⟨v,rfl,u,e⟩ <;> first | exact ⟨rfl,rfl,rfl⟩ | (simp [MsgD.ps] at e)
 | 13,_ =>
   rcases q with ⟨v,rfl,u,e⟩ | ⟨v,rfl,u,e⟩ | ⟨v,rfl,u,e⟩ | ⟨v,rfl,u,e⟩ <;> first | exact ⟨rfl,rfl,rfl⟩ | (simp [MsgD.ps] at e)
 | 14,_ =>
   rcases q with ⟨v,rfl,u,e⟩ | ⟨v,rfl,u,e⟩ | ⟨v,rfl,u,e⟩ | ⟨v,rfl,u,e⟩ <;> first | exact ⟨rfl,rfl,rfl⟩ | (simp [MsgD.ps] at e)
 | 15,_ =>
   rcases q with ⟨v,rfl,u,e⟩ | ⟨v,rfl,u,e⟩ | ⟨v,rfl,u,e⟩ | ⟨v,rfl,u,e⟩ <;> first | exact ⟨rfl,rfl,rfl⟩ | (simp [MsgD.ps] at e)
 | 16,_ =>
   rcases q with ⟨v,rfl,u,e⟩ | ⟨v,rfl,u,e⟩ | ⟨v,rfl,u,e⟩ | ⟨v,rfl,u,e⟩ <;> first | exact ⟨rfl,rfl,rfl⟩ | (simp [MsgD.ps] at e)
 | i + 17,h => omega
end Go.Proofs.YtoopdhgmdjienaaGreatDoor
