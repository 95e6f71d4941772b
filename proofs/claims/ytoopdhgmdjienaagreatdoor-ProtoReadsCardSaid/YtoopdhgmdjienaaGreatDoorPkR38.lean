/- ORepD -/
import Derived.Test.YtoopdhgmdjienaaGreatDoorPkR30
import Derived.Test.YtoopdhgmdjienaaGreatDoorPkR31
import Derived.Test.YtoopdhgmdjienaaGreatDoorPkR32
import Derived.Test.YtoopdhgmdjienaaGreatDoorPkR33
import Derived.Test.YtoopdhgmdjienaaGreatDoorPkR36
import Derived.Test.YtoopdhgmdjienaaGreatDoorPkR37
namespace Go.Proofs.YtoopdhgmdjienaaGreatDoor
set_option linter.unusedVariables false
set_option maxRecDepth 20000
open Go.ChangeShapes Go.WideShapes Go.ChangeAt Go.RowKit Go.Joins
open Go.ChangeMaps (open_string shut_string)
set_option maxHeartbeats 64000000
theorem repNode_oread (s:ByteArray) (w:World) (hs:s.size < 1000000) {vs:List ValN} {r:Nat} (hr:decG csNode s.data.toList = (vs,r)) :
 Calls Tryz.prog 141 #[.string s] w fun e w' => ∃ c,e = .returned (.tuple #[.agg c,.int .i64 (r:Int)]) ∧ Wider w w' ∧ ∀ W,Keeps w.heap.size w' W → RepNode W c vs:=by
 have ok:=okG_dec csNode hr
 match vs,ok with
 | [a0,a1,a2,a3,a4,a5,a6,a7,a8],ok =>
   obtain ⟨⟨v0,rfl,q0⟩,⟨v1,rfl,q1⟩,⟨v2,rfl,q2⟩,⟨v3,rfl,q3⟩,⟨v4,rfl,q4⟩,⟨v5,rfl,q5⟩,⟨v6,rfl,q6⟩,⟨v8,rfl,q8⟩,⟨L,rfl,hL1,hL2⟩,_⟩:=ok
   refine (oreadNode_c s w hs hr).mono ?_
   rintro e w1 ⟨A,n,cap,rfl,g,hn,hO⟩
   exact ⟨_,rfl,g,fun W kW => ⟨v0,v1,v2,v3,v4,v5,v6,v8,A,n,cap,L,rfl,rfl,wf_i64 (by have q:=q0; exact ⟨q.1,Int.le_trans q.2 (by decide)⟩),wf_i64 (by have q:=q1; exact ⟨q.1,Int.le_trans q.2 (by decide)⟩),wf_i64 (by have q:=q2; exact ⟨q.1,Int.le_trans q.2 (by decide)⟩),wf_i64 (by have q:=q3; exact ⟨q.1,Int.le_trans q.2 (by decide)⟩),wf_i64 (by have q:=q4; exact ⟨q.1,Int.le_trans q.2 (by decide)⟩),wf_i64 (by have q:=q5; exact ⟨q.1,Int.le_trans q.2 (by decide)⟩),wf_i64 (by have q:=q6; exact ⟨q.1,Int.le_trans q.2 (by decide)⟩),wf_i64 (by have q:=q8; exact ⟨q.1,Int.le_trans q.2 (by decide)⟩),rowK_own (ks:=ksArm) rfl (by decide) hn (fun x hx => lenArm x (hL2 x hx)) (ownsRow_heap hO fun i hi => kW.2 i (hO.lt i (by simpa using hi)).1 (hO.lt i (by simpa using hi)).2),hn,by omega,fun x hx => wfArm (hL2 x hx)⟩⟩
theorem repField_oread (s:ByteArray) (w:World) (hs:s.size < 1000000) {vs:List ValN} {r:Nat} (hr:decG csField s.data.toList = (vs,r)) :
 Calls Tryz.prog 142 #[.string s] w fun e w' => ∃ c,e = .returned (.tuple #[.agg c,.int .i64 (r:Int)]) ∧ Wider w w' ∧ ∀ W,Keeps w.heap.size w' W → RepField W c vs:=by
 have ok:=okG_dec csField hr
 match vs,ok with
 | [a0,a1,a2,a3,a4],ok =>
   obtain ⟨⟨v0,rfl,q0⟩,⟨v1,rfl,q1⟩,⟨v2,rfl,q2⟩,⟨v3,rfl,q3⟩,⟨v4,rfl,q4⟩,_⟩:=ok
   refine (oreadField_c s w hs hr).mono ?_
   rintro e w1 ⟨rfl,g⟩
   exact ⟨_,rfl,g,fun W kW => ⟨v0,v1,v2,v3,v4,rfl,rfl,wf_i64 (by have q:=q0; exact ⟨q.1,Int.le_trans q.2 (by decide)⟩),wf_u8 (by have q:=q1; exact ⟨q.1,Int.le_trans q.2 (by decide)⟩),wf_i64 (by have q:=q2; exact ⟨q.1,Int.le_trans q.2 (by decide)⟩),wf_i64 (by have q:=q3; exact ⟨q.1,Int.le_trans q.2 (by decide)⟩),wf_i64 (by have q:=q4; exact ⟨q.1,Int.le_trans q.2 (by decide)⟩)⟩⟩
theorem repTable_oread (s:ByteArray) (w:World) (hs:s.size < 1000000) {vs:List ValN} {r:Nat} (hr:decG csTable s.data.toList = (vs,r)) :
 Calls Tryz.prog 143 #[.string s] w fun e w' => ∃ c,e = .returned (.tuple #[.agg c,.int .i64 (r:Int)]) ∧ Wider w w' ∧ ∀ W,Keeps w.heap.size w' W → RepTable W c vs:=by
 have ok:=okG_dec csTable hr
 match vs,ok with
 | [a0,a1,a2,a3,a4],ok =>
   obtain ⟨⟨v0,rfl,q0⟩,⟨v1,rfl,q1⟩,⟨L,rfl,hL1,hL2⟩,⟨v3,rfl,q3⟩,⟨v4,rfl,q4⟩,_⟩:=ok
   refine (oreadTable_c s w hs hr).mono ?_
   rintro e w1 ⟨A,n,cap,rfl,g,hn,hO⟩
   exact ⟨_,rfl,g,fun W kW => ⟨v0,v1,v3,v4,A,n,cap,L,rfl,rfl,wf_i64 (by have q:=q0; exact ⟨q.1,Int.le_trans q.2 (by decide)⟩),wf_u8 (by have q:=q1; exact ⟨q.1,Int.le_trans q.2 (by decide)⟩),wf_i64 (by have q:=q3; exact ⟨q.1,Int.le_trans q.2 (by decide)⟩),wf_i64 (by have q:=q4; exact ⟨q.1,Int.le_trans q.2 (by decide)⟩),rowK_own (ks:=ksKey) rfl (by decide) hn (fun x hx => lenKey x (hL2 x hx)) (ownsRow_heap hO fun i hi => kW.2 i (hO.lt i (by simpa using hi)).1 (hO.lt i (by simpa using hi)).2),hn,by omega,fun x hx => wfKey (hL2 x hx)⟩⟩
theorem repEntry_oread (s:ByteArray) (w:World) (hs:s.size < 1000000) {vs:List ValN} {r:Nat} (hr:decG csEntry s.data.toList = (vs,r)) :
 Calls Tryz.prog 144 #[.string s] w fun e w' => ∃ c,e = .returned (.tuple #[.agg c,.int .i64 (r:Int)]) ∧ Wider w w' ∧ ∀ W,Keeps w.heap.size w' W → RepEntry W c vs:=by
 have ok:=okG_dec csEntry hr
 match vs,ok with
 | [a0,a1,a2,a3,a4,a5,a6,a7,a8,a9,a10],ok =>
   obtain ⟨⟨v0,rfl,q0⟩,⟨v1,rfl,q1⟩,⟨v2,rfl,q2⟩,⟨v3,rfl,q3⟩,⟨v4,rfl,q4⟩,⟨v5,rfl,q5⟩,⟨L,rfl,hL1,hL2⟩,⟨v7,rfl,q7⟩,⟨v8,rfl,q8⟩,⟨v9,rfl,q9⟩,⟨v10,rfl,q10⟩,_⟩:=ok
   refine (oreadEntry_c s w hs hr).mono ?_
   rintro e w1 ⟨A,n,cap,rfl,g,hn,hO⟩
   have hb:(if (v10 == 1) = true then (1:Int) else 0) = v10:=by
    have q:0 ≤ v10 ∧ v10 ≤ 1:=q10
    by_cases e:v10 = 1
    · subst e; rfl
    · have e0:v10 = 0:=by omega
      subst e0; rfl
   exact ⟨_,rfl,g,fun W kW => ⟨v0,v3,v4,v5,v7,v8,v9,v1,v2,(v10 == 1),A,n,cap,L,rfl,by rw [hb],wf_i64 (by have q:=q0; exact ⟨q.1,Int.le_trans q.2 (by decide)⟩),by have q:v1.size ≤ 32:=q1; unfold maxLen; omega,by have q:v2.size ≤ 32:=q2; unfold maxLen; omega,wf_i64 (by have q:=q3; exact ⟨q.1,Int.le_trans q.2 (by decide)⟩),wf_i64 (by have q:=q4; exact ⟨q.1,Int.le_trans q.2 (by decide)⟩),wf_i64 (by have q:=q5; exact ⟨q.1,Int.le_trans q.2 (by decide)⟩),wf_i64 (by have q:=q7; exact ⟨q.1,Int.le_trans q.2 (by decide)⟩),wf_i64 (by have q:=q8; exact ⟨q.1,Int.le_trans q.2 (by decide)⟩),wf_u64 (by have q:=q9; exact ⟨q.1,Int.le_trans q.2 (by decide)⟩),rowK_own (ks:=ksArg) rfl (by decide) hn (fun x hx => lenArg x (hL2 x hx)) (ownsRow_heap hO fun i hi => kW.2 i (hO.lt i (by simpa using hi)).1 (hO.lt i (by simpa using hi)).2),hn,by omega,fun x hx => wfArg (hL2 x hx)⟩⟩
theorem repBlock_oread (s:ByteArray) (w:World) (hs:s.size < 1000000) {vs:List ValN} {r:Nat} (hr:decG csBlock s.data.toList = (vs,r)) :
 Calls Tryz.prog 145 #[.string s] w fun e w' => ∃ c,e = .returned (.tuple #[.agg c,.int .i64 (r:Int)]) ∧ Wider w w' ∧ ∀ W,Keeps w.heap.size w' W → RepBlock W c vs:=by
 have ok:=okG_dec csBlock hr
 match vs,ok with
 | [a0,a1],ok =>
   obtain ⟨⟨v0,rfl,q0⟩,⟨L,rfl,hL1,hL2⟩,_⟩:=ok
   refine (oreadBlock_c s w hs hr).mono ?_
   rintro e w1 ⟨A,n,cap,rfl,g,hn,hO⟩
   exact ⟨_,rfl,g,fun W kW => ⟨v0,A,n,cap,L,rfl,rfl,wf_i64 (by have q:=q0; exact ⟨q.1,Int.le_trans q.2 (by decide)⟩),rowK_own (ks:=ksInstr) rfl (by decide) hn (fun x hx => lenInstr x (hL2 x hx)) (ownsRow_heap hO fun i hi => kW.2 i (hO.lt i (by simpa using hi)).1 (hO.lt i (by simpa using hi)).2),hn,by omega,fun x hx => wfInstr (hL2 x hx)⟩⟩
theorem repGroup_oread (s:ByteArray) (w:World) (hs:s.size < 1000000) {vs:List ValN} {r:Nat} (hr:decG csGroup s.data.toList = (vs,r)) :
 Calls Tryz.prog 146 #[.string s] w fun e w' => ∃ c,e = .returned (.tuple #[.agg c,.int .i64 (r:Int)]) ∧ Wider w w' ∧ ∀ W,Keeps w.heap.size w' W → RepGroup W c vs:=by
 have ok:=okG_dec csGroup hr
 match vs,ok with
 | [a0,a1,a2,a3],ok =>
   obtain ⟨⟨v0,rfl,q0⟩,⟨v1,rfl,q1⟩,⟨v2,rfl,q2⟩,⟨L,rfl,hL1,hL2⟩,_⟩:=ok
   refine (oreadGroup_c s w hs hr).mono ?_
   rintro e w1 ⟨A,n,cap,rfl,g,hn,hO⟩
   exact ⟨_,rfl,g,fun W kW => ⟨v0,v1,v2,A,n,cap,L,rfl,rfl,wf_i64 (by have q:=q0; exact ⟨q.1,Int.le_trans q.2 (by decide)⟩),wf_u8 (by have q:=q1; exact ⟨q.1,Int.le_trans q.2 (by decide)⟩),wf_i64 (by have q:=q2; exact ⟨q.1,Int.le_trans q.2 (by decide)⟩),rowK_own (ks:=ksBucket) rfl (by decide) hn (fun x hx => lenBucket x (hL2 x hx)) (ownsRow_heap hO fun i hi => kW.2 i (hO.lt i (by simpa using hi)).1 (hO.lt i (by simpa using hi)).2),hn,by omega,fun x hx => wfBucket (hL2 x hx)⟩⟩
theorem repMeter_oread (s:ByteArray) (w:World) (hs:s.size < 1000000) {vs:List ValN} {r:Nat} (hr:decG csMeter s.data.toList = (vs,r)) :
 Calls Tryz.prog 147 #[.string s] w fun e w' => ∃ c,e = .returned (.tuple #[.agg c,.int .i64 (r:Int)]) ∧ Wider w w' ∧ ∀ W,Keeps w.heap.size w' W → RepMeter W c vs:=by
 have ok:=okG_dec csMeter hr
 match vs,ok with
 | [a0,a1,a2],ok =>
   obtain ⟨⟨v0,rfl,q0⟩,⟨v1,rfl,q1⟩,⟨v2,rfl,q2⟩,_⟩:=ok
   refine (oreadMeter_c s w hs hr).mono ?_
   rintro e w1 ⟨rfl,g⟩
   exact ⟨_,rfl,g,fun W kW => ⟨v0,v1,v2,rfl,rfl,wf_i64 (by have q:=q0; exact ⟨q.1,Int.le_trans q.2 (by decide)⟩),wf_i64 (by have q:=q1; exact ⟨q.1,Int.le_trans q.2 (by decide)⟩),wf_i64 (by have q:=q2; exact ⟨q.1,Int.le_trans q.2 (by decide)⟩)⟩⟩
theorem repRegs_oread (s:ByteArray) (w:World) (hs:s.size < 1000000) {vs:List ValN} {r:Nat} (hr:decG csRegs s.data.toList = (vs,r)) :
 Calls Tryz.prog 148 #[.string s] w fun e w' => ∃ c,e = .returned (.tuple #[.agg c,.int .i64 (r:Int)]) ∧ Wider w w' ∧ ∀ W,Keeps w.heap.size w' W → RepRegs W c vs:=by
 have ok:=okG_dec csRegs hr
 match vs,ok with
 | [a0,a1],ok =>
   obtain ⟨⟨v0,rfl,q0⟩,⟨v1,rfl,q1⟩,_⟩:=ok
   refine (oreadRegs_c s w hs hr).mono ?_
   rintro e w1 ⟨rfl,g⟩
   exact ⟨_,rfl,g,fun W kW => ⟨v0,v1,rfl,rfl,wf_i64 (by have q:=q0; exact ⟨q.1,Int.le_trans q.2 (by decide)⟩),wf_i64 (by have q:=q1; exact ⟨q.1,Int.le_trans q.2 (by decide)⟩)⟩⟩
end Go.Proofs.YtoopdhgmdjienaaGreatDoor
