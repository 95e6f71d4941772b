/- OMsgA PRoom -/
import Derived.Test.YtoopdhgmdjienaaGreatDoorPkR23
namespace Go.Proofs.YtoopdhgmdjienaaGreatDoor
set_option linter.unusedVariables false
set_option maxRecDepth 20000
open Go.ChangeShapes Go.WideShapes Go.ChangeAt Go.RowKit Go.Joins
open Go.ChangeMaps (open_string shut_string)
set_option maxHeartbeats 64000000
theorem extract_get (M:Array Value) (a b j:Nat) (hb:b ≤ M.size):(M.extract a b)[j]? = if a + j < b then M[a + j]? else none:=by
 rw [Array.getElem?_extract,Nat.min_eq_left hb]
 by_cases h:a + j < b
 · rw [if_pos (by omega),if_pos h]
 · rw [if_neg (by omega),if_neg h]
theorem range_part {w:World} {g:Nat} {C:Array Value} {t:TypeId} (hg:w.heap[g]? = some (.cells C t (0,0))) (o n:Nat) (hn:o + n ≤ C.size):w.rangeAt g o (C.extract o (o + n)).toList:=by
 intro j v hv
 rw [Array.getElem?_toList] at hv
 rw [extract_get C o (o + n) j hn] at hv
 split at hv
 · exact blk_cell hg (o + j) hv
 · cases hv
theorem run_load_part {P:Program} {w:World} {g:Nat} {C:Array Value} {t:TypeId} (hg:w.heap[g]? = some (.cells C t (0,0))) (ty:TypeId) (o n e:Nat) (he:o + n = e) (d:TypeDesc) (hn:e ≤ C.size)
 (hu:P.underlying ty = some d) (hd:d.isRow = true) (hi:(P.info? ty).map (·.size) = some n):(Instr.loadAt ty (.pointer (some ⟨g,o,none⟩))).run P w = .ok (.agg (C.extract o e)) w:=by
 subst he
 have h:=run_loadAt_mid (P:=P) w g o ty (C.extract o (o + n)).toList d (range_part hg o n hn) hu hd (by rw [hi,Array.length_toList,Array.size_extract]; congr 1; omega)
 rw [Array.toArray_toList] at h
 exact h
theorem wpList_load_part {P:Program} {ops:Array Oper} {rest:List Oper} {op:Oper} {a:Act} {w:World} {Q:Exit → Act → World → Prop} (hgd:op.guard = none) (ty:TypeId) (x:Operand) (hop:op.op = .load ty x)
 (g o n e:Nat) (he:o + n = e) (hx:a.eval x = .pointer (some ⟨g,o,none⟩)) {t:TypeId} {C:Array Value} (d:TypeDesc) (hg:w.heap[g]? = some (.cells C t (0,0))) (hn:e ≤ C.size)
 (hu:P.underlying ty = some d) (hd:d.isRow = true) (hi:(P.info? ty).map (·.size) = some n)
 (h:wpList P ops Q rest (a.put op.dst (.agg (C.extract o e))) w):wpList P ops Q (op :: rest) a w:=by
 subst he
 refine wpList_load_mid hgd ty x hop g o hx (C.extract o (o + n)).toList d (range_part hg o n hn) hu hd (by rw [hi,Array.length_toList,Array.size_extract]; congr 1; omega) ?_
 rw [Array.toArray_toList]
 exact h
def setPart (M:Array Value) (o:Nat) (c:Array Value):Array Value:=(M.toList.take o ++ c.toList ++ M.toList.drop (o + c.size)).toArray
theorem setPart_size {M:Array Value} {o:Nat} {c:Array Value} (h:o + c.size ≤ M.size):(setPart M o c).size = M.size:=by
 simp [setPart]; omega
theorem setPart_get {M:Array Value} {o:Nat} {c:Array Value} (h:o + c.size ≤ M.size) (j:Nat):(setPart M o c)[j]? = if o ≤ j ∧ j < o + c.size then c[j - o]? else M[j]? :=by
 have hl:(M.toList.take o).length = o:=by simp; omega
 unfold setPart
 rw [List.getElem?_toArray]
 by_cases h1:j < o
 · rw [if_neg (by omega),List.append_assoc,List.getElem?_append_left (by omega),List.getElem?_take_of_lt h1,Array.getElem?_toList]
 · by_cases h2:j < o + c.size
   · rw [if_pos ⟨by omega,h2⟩,List.append_assoc,List.getElem?_append_right (by omega),hl,List.getElem?_append_left (by simp; omega),Array.getElem?_toList]
   · rw [if_neg (by omega),List.getElem?_append_right (by simp; omega),List.getElem?_drop]
     simp only [List.length_append,hl,Array.length_toList,Array.getElem?_toList]
     congr 1; omega
theorem extract_same {M N:Array Value} {a b:Nat} (hs:M.size = N.size) (hb:b ≤ M.size) (h:∀ j,a ≤ j → j < b → M[j]? = N[j]?):M.extract a b = N.extract a b:=by
 apply Array.ext_getElem?
 intro i
 rw [extract_get M a b i hb,extract_get N a b i (by omega)]
 by_cases c:a + i < b
 · rw [if_pos c,if_pos c,h _ (by omega) c]
 · rw [if_neg c,if_neg c]
theorem setPart_self {M:Array Value} {o b:Nat} {c:Array Value} (hb:b = o + c.size) (h:o + c.size ≤ M.size):(setPart M o c).extract o b = c:=by
 subst hb
 apply Array.ext_getElem?
 intro i
 rw [extract_get _ _ _ _ (by rw [setPart_size h]; exact h)]
 by_cases k:o + i < o + c.size
 · rw [if_pos k,setPart_get h,if_pos ⟨by omega,k⟩,Nat.add_sub_cancel_left]
 · rw [if_neg k,Array.getElem?_eq_none (by omega)]
theorem setPart_apart {M:Array Value} {o a b:Nat} {c:Array Value} (h:o + c.size ≤ M.size) (hb:b ≤ M.size) (hab:b ≤ o ∨ o + c.size ≤ a):(setPart M o c).extract a b = M.extract a b :=
 extract_same (setPart_size h) (by rw [setPart_size h]; exact hb) fun j h1 h2 => by rw [setPart_get h,if_neg (by omega)]
theorem run_fieldAt {P:Program} {t:TypeId} {fs:Array Field} {i:Nat} {f:Field} (hu:P.underlying t = some (.struct fs)) (hf:fs[i]? = some f) {n:Nat} (hs:(P.info? f.type).map (·.size) = some (n + 1)) (w:World) (g o:Nat) :
 (Instr.fieldAt t (.pointer (some ⟨g,o,none⟩)) i).run P w = .ok (.pointer (some ⟨g,o + f.offset,none⟩)) w:=by
 cases hi:P.info? f.type with
 | none => simp [hi] at hs
 | some j =>
   have hj:j.size = n + 1:=by simpa [hi] using hs
   simp [Instr.fieldAt,run_underlying hu,hf,Instr.sureAddr,fieldPlace,sizeOf,typeInfo,hi,hj,Addr.add]
theorem wp_field {P:Program} {op:Oper} {a:Act} {w:World} {K:Act → World → Prop} {Q:Exit → Act → World → Prop} (t:TypeId) (x:Operand) (i:Nat) (hop:op.op = .fieldAddr t x i)
 (g o e:Nat) (hx:a.eval x = .pointer (some ⟨g,o,none⟩)) (hrun:∀ w:World,(Instr.fieldAt t (.pointer (some ⟨g,o,none⟩)) i).run P w = .ok (.pointer (some ⟨g,e,none⟩)) w)
 (h:K (a.put op.dst (.pointer (some ⟨g,e,none⟩))) w):op.wp P a w K Q:=by
 unfold Oper.wp execOp
 simp only [hop,hx,Sem.run_bind,hrun,Result.andThen_ok,Sem.run_pure]
 exact h
theorem wpList_field {P:Program} {ops:Array Oper} {rest:List Oper} {op:Oper} {a:Act} {w:World} {Q:Exit → Act → World → Prop} (hgd:op.guard = none) (t:TypeId) (x:Operand) (i:Nat) (hop:op.op = .fieldAddr t x i)
 (g o e:Nat) (hx:a.eval x = .pointer (some ⟨g,o,none⟩)) (hrun:∀ w:World,(Instr.fieldAt t (.pointer (some ⟨g,o,none⟩)) i).run P w = .ok (.pointer (some ⟨g,e,none⟩)) w)
 (h:wpList P ops Q rest (a.put op.dst (.pointer (some ⟨g,e,none⟩))) w):wpList P ops Q (op :: rest) a w :=
 wpList_plain hgd fun _ hK => wp_field t x i hop g o e hx hrun (hK _ _ h)
theorem fieldM0 (g:Nat) (w:World):(Instr.fieldAt 51 (.pointer (some ⟨g,0,none⟩)) 0).run Tryz.prog w = .ok (.pointer (some ⟨g,0,none⟩)) w:=by
 have h:=run_fieldAt (P:=Tryz.prog) (i:=0) (n:=0) Tryz.underlying51 rfl (by kernel_rfl) w g 0
 simpa using h
theorem fieldM1 (g:Nat) (w:World):(Instr.fieldAt 51 (.pointer (some ⟨g,0,none⟩)) 1).run Tryz.prog w = .ok (.pointer (some ⟨g,1,none⟩)) w:=by
 have h:=run_fieldAt (P:=Tryz.prog) (i:=1) (n:=0) Tryz.underlying51 rfl (by kernel_rfl) w g 0
 simpa using h
theorem fieldM2 (g:Nat) (w:World):(Instr.fieldAt 51 (.pointer (some ⟨g,0,none⟩)) 2).run Tryz.prog w = .ok (.pointer (some ⟨g,2,none⟩)) w:=by
 have h:=run_fieldAt (P:=Tryz.prog) (i:=2) (n:=0) Tryz.underlying51 rfl (by kernel_rfl) w g 0
 simpa using h
theorem fieldM3 (g:Nat) (w:World):(Instr.fieldAt 51 (.pointer (some ⟨g,0,none⟩)) 3).run Tryz.prog w = .ok (.pointer (some ⟨g,3,none⟩)) w:=by
 have h:=run_fieldAt (P:=Tryz.prog) (i:=3) (n:=0) Tryz.underlying51 rfl (by kernel_rfl) w g 0
 simpa using h
theorem fieldM4 (g:Nat) (w:World):(Instr.fieldAt 51 (.pointer (some ⟨g,0,none⟩)) 4).run Tryz.prog w = .ok (.pointer (some ⟨g,4,none⟩)) w:=by
 have h:=run_fieldAt (P:=Tryz.prog) (i:=4) (n:=0) Tryz.underlying51 rfl (by kernel_rfl) w g 0
 simpa using h
theorem fieldM5 (g:Nat) (w:World):(Instr.fieldAt 51 (.pointer (some ⟨g,0,none⟩)) 5).run Tryz.prog w = .ok (.pointer (some ⟨g,5,none⟩)) w:=by
 have h:=run_fieldAt (P:=Tryz.prog) (i:=5) (n:=0) Tryz.underlying51 rfl (by kernel_rfl) w g 0
 simpa using h
theorem fieldM6 (g:Nat) (w:World):(Instr.fieldAt 51 (.pointer (some ⟨g,0,none⟩)) 6).run Tryz.prog w = .ok (.pointer (some ⟨g,6,none⟩)) w:=by
 have h:=run_fieldAt (P:=Tryz.prog) (i:=6) (n:=0) Tryz.underlying51 rfl (by kernel_rfl) w g 0
 simpa using h
theorem fieldM7 (g:Nat) (w:World):(Instr.fieldAt 51 (.pointer (some ⟨g,0,none⟩)) 7).run Tryz.prog w = .ok (.pointer (some ⟨g,7,none⟩)) w:=by
 have h:=run_fieldAt (P:=Tryz.prog) (i:=7) (n:=0) Tryz.underlying51 rfl (by kernel_rfl) w g 0
 simpa using h
theorem fieldM8 (g:Nat) (w:World):(Instr.fieldAt 51 (.pointer (some ⟨g,0,none⟩)) 8).run Tryz.prog w = .ok (.pointer (some ⟨g,8,none⟩)) w:=by
 have h:=run_fieldAt (P:=Tryz.prog) (i:=8) (n:=0) Tryz.underlying51 rfl (by kernel_rfl) w g 0
 simpa using h
theorem fieldM9 (g:Nat) (w:World):(Instr.fieldAt 51 (.pointer (some ⟨g,0,none⟩)) 9).run Tryz.prog w = .ok (.pointer (some ⟨g,9,none⟩)) w:=by
 have h:=run_fieldAt (P:=Tryz.prog) (i:=9) (n:=0) Tryz.underlying51 rfl (by kernel_rfl) w g 0
 simpa using h
theorem fieldM10 (g:Nat) (w:World):(Instr.fieldAt 51 (.pointer (some ⟨g,0,none⟩)) 10).run Tryz.prog w = .ok (.pointer (some ⟨g,10,none⟩)) w:=by
 have h:=run_fieldAt (P:=Tryz.prog) (i:=10) (n:=0) Tryz.underlying51 rfl (by kernel_rfl) w g 0
 simpa using h
theorem fieldM11 (g:Nat) (w:World):(Instr.fieldAt 51 (.pointer (some ⟨g,0,none⟩)) 11).run Tryz.prog w = .ok (.pointer (some ⟨g,11,none⟩)) w:=by
 have h:=run_fieldAt (P:=Tryz.prog) (i:=11) (n:=8) Tryz.underlying51 rfl (by kernel_rfl) w g 0
 simpa using h
theorem fieldM12 (g:Nat) (w:World):(Instr.fieldAt 51 (.pointer (some ⟨g,0,none⟩)) 12).run Tryz.prog w = .ok (.pointer (some ⟨g,20,none⟩)) w:=by
 have h:=run_fieldAt (P:=Tryz.prog) (i:=12) (n:=4) Tryz.underlying51 rfl (by kernel_rfl) w g 0
 simpa using h
theorem fieldM13 (g:Nat) (w:World):(Instr.fieldAt 51 (.pointer (some ⟨g,0,none⟩)) 13).run Tryz.prog w = .ok (.pointer (some ⟨g,25,none⟩)) w:=by
 have h:=run_fieldAt (P:=Tryz.prog) (i:=13) (n:=4) Tryz.underlying51 rfl (by kernel_rfl) w g 0
 simpa using h
theorem fieldM14 (g:Nat) (w:World):(Instr.fieldAt 51 (.pointer (some ⟨g,0,none⟩)) 14).run Tryz.prog w = .ok (.pointer (some ⟨g,30,none⟩)) w:=by
 have h:=run_fieldAt (P:=Tryz.prog) (i:=14) (n:=10) Tryz.underlying51 rfl (by kernel_rfl) w g 0
 simpa using h
theorem fieldM15 (g:Nat) (w:World):(Instr.fieldAt 51 (.pointer (some ⟨g,0,none⟩)) 15).run Tryz.prog w = .ok (.pointer (some ⟨g,41,none⟩)) w:=by
 have h:=run_fieldAt (P:=Tryz.prog) (i:=15) (n:=1) Tryz.underlying51 rfl (by kernel_rfl) w g 0
 simpa using h
theorem fieldM16 (g:Nat) (w:World):(Instr.fieldAt 51 (.pointer (some ⟨g,0,none⟩)) 16).run Tryz.prog w = .ok (.pointer (some ⟨g,43,none⟩)) w:=by
 have h:=run_fieldAt (P:=Tryz.prog) (i:=16) (n:=3) Tryz.underlying51 rfl (by kernel_rfl) w g 0
 simpa using h
theorem fieldM17 (g:Nat) (w:World):(Instr.fieldAt 51 (.pointer (some ⟨g,0,none⟩)) 17).run Tryz.prog w = .ok (.pointer (some ⟨g,47,none⟩)) w:=by
 have h:=run_fieldAt (P:=Tryz.prog) (i:=17) (n:=2) Tryz.underlying51 rfl (by kernel_rfl) w g 0
 simpa using h
theorem fieldM18 (g:Nat) (w:World):(Instr.fieldAt 51 (.pointer (some ⟨g,0,none⟩)) 18).run Tryz.prog w = .ok (.pointer (some ⟨g,50,none⟩)) w:=by
 have h:=run_fieldAt (P:=Tryz.prog) (i:=18) (n:=1) Tryz.underlying51 rfl (by kernel_rfl) w g 0
 simpa using h
theorem wpList_of_quiet {P:Program} {ops:Array Oper} {C:World → Prop} {Q:Act → Prop} {Q':Exit → Act → World → Prop} (hQ:∀ a w,C w → Q a → Q' .normal a w):∀ (l:List Oper) (a:Act) (w:World),C w → wpQuiet P ops C Q l a → wpList P ops Q' l a w
 | [],a,w,hw,h => hQ a w hw h
 | o :: rest,a,w,hw,h => by
   unfold wpQuiet at h
   unfold wpList
   split
   · rename_i c
     rw [if_pos c] at h
     exact .inl (Oper.wp_of_quiet hw (fun a' w' hw' k => wpList_of_quiet hQ rest a' w' hw' k) h)
   · rename_i c
     rw [if_neg c] at h
     exact wpList_of_quiet hQ rest _ _ hw h
theorem wp_region_plain {P:Program} {V:World} {id:Nat} {Q:Exit → Act → World → Prop} {a:Act} {w:World} {l:List Oper} (g:Wider V w)
 (h:wpQuiet P l.toArray (fun w' => ∃ x:After V,w' = x.w) (fun a' => ∀ w',(∃ x:After V,w' = x.w) → Q .normal a' w') l a):(Code.region id l.toArray false).wp P Q a w :=
 wp_region_lit (wpList_of_quiet (C:=fun w' => ∃ x:After V,w' = x.w) (fun a' w' hw' k => k w' hw') l a w ⟨⟨w,g⟩,rfl⟩ h)
theorem quiet_field {P:Program} {op:Oper} {a:Act} {Cl:World → Prop} {K:Act → Prop} (t:TypeId) (x:Operand) (i:Nat) (hop:op.op = .fieldAddr t x i)
 (g o e:Nat) (hx:a.eval x = .pointer (some ⟨g,o,none⟩)) (hrun:∀ w:World,(Instr.fieldAt t (.pointer (some ⟨g,o,none⟩)) i).run P w = .ok (.pointer (some ⟨g,e,none⟩)) w)
 (h:K (a.put op.dst (.pointer (some ⟨g,e,none⟩)))):op.quiet P a Cl K :=
 ⟨_,fun w _ => by unfold Oper.quietAt execOp; simp only [hop,hx,Sem.run_bind,hrun,Result.andThen_ok,Sem.run_pure]; exact ⟨rfl,rfl⟩,h⟩
theorem quiet_load {P:Program} {op:Oper} {a:Act} {Cl:World → Prop} {K:Act → Prop} (ty:TypeId) (x:Operand) (hop:op.op = .load ty x)
 (g o n e:Nat) (he:o + n = e) (hx:a.eval x = .pointer (some ⟨g,o,none⟩)) {t:TypeId} {C:Array Value} (d:TypeDesc) (hg:∀ w,Cl w → w.heap[g]? = some (.cells C t (0,0))) (hn:e ≤ C.size)
 (hu:P.underlying ty = some d) (hd:d.isRow = true) (hi:(P.info? ty).map (·.size) = some n)
 (h:K (a.put op.dst (.agg (C.extract o e)))):op.quiet P a Cl K :=
 ⟨_,fun w hw => by unfold Oper.quietAt execOp; simp only [hop,hx,Sem.run_bind,run_load_part (hg w hw) ty o n e he d hn hu hd hi,Result.andThen_ok,Sem.run_pure]; exact ⟨rfl,rfl⟩,h⟩
theorem quiet_build {P:Program} {op:Oper} {a:Act} {Cl:World → Prop} {K:Act → Prop} (t:TypeId) (parts:Array (Nat × Operand)) (hop:op.op = .build t parts)
 {ps:Array (Nat × Value)} (hps:(parts.map fun (i,x) => (i,a.eval x)) = ps) {cells:Array Value} (hrun:∀ w,(Instr.build t ps).run P w = .ok (.agg cells) w)
 (h:K (a.put op.dst (.agg cells))):op.quiet P a Cl K :=
 ⟨_,fun w hw => by
  subst hps
  unfold Oper.quietAt execOp; simp only [hop,Sem.run_bind,hrun,Result.andThen_ok,Sem.run_pure]; exact ⟨rfl,rfl⟩,h⟩
theorem after_blk {V:World} {g:Nat} {C:Array Value} {t:TypeId} (h:V.heap[g]? = some (.cells C t (0,0))):∀ w,(∃ x:After V,w = x.w) → w.heap[g]? = some (.cells C t (0,0)):=by
 rintro w ⟨x,rfl⟩
 exact wide_blk h x.h
theorem wpList_run_val {P:Program} {ops:Array Oper} {rest:List Oper} {op:Oper} {a:Act} {w:World} {Q:Exit → Act → World → Prop} (hgd:op.guard = none) (t:TypeId) (parts:Array (Nat × Operand)) (hop:op.op = .build t parts)
 {ps:Array (Nat × Value)} (hps:(parts.map fun (i,x) => (i,a.eval x)) = ps) {cells:Array Value} (hrun:(Instr.build t ps).run P w = .ok (.agg cells) w)
 (h:wpList P ops Q rest (a.put op.dst (.agg cells)) w):wpList P ops Q (op :: rest) a w:=by
 subst hps
 refine wpList_plain hgd fun _ hK => ?_
 have hh:=hK _ _ h
 unfold Oper.wp execOp
 simp only [hop,Sem.run_bind,hrun,Result.andThen_ok,Sem.run_pure]
 exact hh
structure RepA (w:World) (M:Array Value) (V:Nat → List ValN):Prop where
 size:M.size = 52
 r0:RepNode w (M.extract 11 20) (V 0)
 r1:RepField w (M.extract 20 25) (V 1)
 r2:RepTable w (M.extract 25 30) (V 2)
 r3:RepEntry w (M.extract 30 41) (V 3)
 r4:RepBlock w (M.extract 41 43) (V 4)
 r5:RepGroup w (M.extract 43 47) (V 5)
 r6:RepMeter w (M.extract 47 50) (V 6)
 r7:RepRegs w (M.extract 50 52) (V 7)
theorem RepA.on {W w:World} {M:Array Value} {V:Nat → List ValN} (h:RepA W M V) (g:Wider W w):RepA w M V :=
 ⟨h.size,h.r0.on g,h.r1.on g,h.r2.on g,h.r3.on g,h.r4.on g,h.r5.on g,h.r6.on g,h.r7.on g⟩
def RoomB (b0:Nat) (w:World) (A:Option Addr) (m:Nat):Prop :=
 m = 0 ∨ ∃ g cur t,A = some ⟨g,0,none⟩ ∧ w.heap[g]? = some (.cells cur t (0,0)) ∧ m ≤ cur.size ∧ b0 ≤ g
theorem RoomB.keeps {b0:Nat} {W w:World} {A:Option Addr} {m:Nat} (h:RoomB b0 W A m) (k:Keeps b0 W w):RoomB b0 w A m:=by
 rcases h with h | ⟨g,cur,t,e,hh,hm,hb⟩
 · exact .inl h
 · exact .inr ⟨g,cur,t,e,(k.2 g hb (Array.getElem?_eq_some_iff.1 hh).1).trans hh,hm,hb⟩
theorem RoomB.less {b0 b1:Nat} {w:World} {A:Option Addr} {m:Nat} (h:RoomB b0 w A m) (k:b1 ≤ b0):RoomB b1 w A m:=by
 rcases h with h | ⟨g,cur,t,e,hh,hm,hb⟩
 · exact .inl h
 · exact .inr ⟨g,cur,t,e,hh,hm,Nat.le_trans k hb⟩
theorem roomB_owns {w:World} {b0 b n size cap:Nat} {e:TypeId} {A:Option Addr} {xs:List Value} (h:w.ownsRow b e size (.slice A n cap) n xs) (hb:b0 ≤ b):RoomB b0 w A (n * size):=by
 rcases h.2 with ⟨q,h0⟩ | ⟨g,cap',cur,q,hg,hh,h1,h2,h3,_⟩
 · exact .inl (by rw [h0,Nat.zero_mul])
 · injection q with q1 q2 q3
   exact .inr ⟨g,cur,e,q1,hh,by rw [h3]; exact Nat.mul_le_mul_right _ h1,Nat.le_trans hb hg⟩
theorem repNode_rm (s:ByteArray) (w:World) (hs:s.size < 1000000) {vs:List ValN} {r:Nat} (hr:decG csNode s.data.toList = (vs,r)) :
 Calls Tryz.prog 83 #[.string s] w fun e w' => ∃ c,e = .returned (.tuple #[.agg c,.int .i64 (r:Int)]) ∧ Wider w w' ∧ ∀ W,Keeps w.heap.size w' W → RepNode W c vs ∧ ∃ A n cap,c[7]? = some (.slice A n cap) ∧ n < 1000000 ∧ RoomB w.heap.size W A (n * 2):=by
 have ok:=okG_dec csNode hr
 match vs,ok with
 | [a0,a1,a2,a3,a4,a5,a6,a7,a8],ok =>
   obtain ⟨⟨v0,rfl,q0⟩,⟨v1,rfl,q1⟩,⟨v2,rfl,q2⟩,⟨v3,rfl,q3⟩,⟨v4,rfl,q4⟩,⟨v5,rfl,q5⟩,⟨v6,rfl,q6⟩,⟨v8,rfl,q8⟩,⟨L,rfl,hL1,hL2⟩,_⟩:=ok
   refine (readNode_c s w hs hr).mono ?_
   rintro e w1 ⟨A,n,cap,rfl,g,hn,hO⟩
   exact ⟨_,rfl,g,fun W kW => ⟨⟨v0,v1,v2,v3,v4,v5,v6,v8,A,n,cap,L,rfl,rfl,wf_i64 (by have q:=q0; exact ⟨q.1,Int.le_trans q.2 (by decide)⟩),wf_i64 (by have q:=q1; exact ⟨q.1,Int.le_trans q.2 (by decide)⟩),wf_i64 (by have q:=q2; exact ⟨q.1,Int.le_trans q.2 (by decide)⟩),wf_i64 (by have q:=q3; exact ⟨q.1,Int.le_trans q.2 (by decide)⟩),wf_i64 (by have q:=q4; exact ⟨q.1,Int.le_trans q.2 (by decide)⟩),wf_i64 (by have q:=q5; exact ⟨q.1,Int.le_trans q.2 (by decide)⟩),wf_i64 (by have q:=q6; exact ⟨q.1,Int.le_trans q.2 (by decide)⟩),wf_i64 (by have q:=q8; exact ⟨q.1,Int.le_trans q.2 (by decide)⟩),rowK_own (ks:=ksArm) rfl (by decide) hn (fun x hx => lenArm x (hL2 x hx)) (ownsRow_heap hO fun i hi => kW.2 i (hO.lt i (by simpa using hi)).1 (hO.lt i (by simpa using hi)).2),hn,by omega,fun x hx => wfArm (hL2 x hx)⟩,A,n,cap,rfl,by omega,roomB_owns (ownsRow_heap hO fun i hi => kW.2 i (hO.lt i (by simpa using hi)).1 (hO.lt i (by simpa using hi)).2) (Nat.le_refl _)⟩⟩
theorem repBlock_rm (s:ByteArray) (w:World) (hs:s.size < 1000000) {vs:List ValN} {r:Nat} (hr:decG csBlock s.data.toList = (vs,r)) :
 Calls Tryz.prog 87 #[.string s] w fun e w' => ∃ c,e = .returned (.tuple #[.agg c,.int .i64 (r:Int)]) ∧ Wider w w' ∧ ∀ W,Keeps w.heap.size w' W → RepBlock W c vs ∧ ∃ A n cap,c[1]? = some (.slice A n cap) ∧ n < 1000000 ∧ RoomB w.heap.size W A (n * 7):=by
 have ok:=okG_dec csBlock hr
 match vs,ok with
 | [a0,a1],ok =>
   obtain ⟨⟨v0,rfl,q0⟩,⟨L,rfl,hL1,hL2⟩,_⟩:=ok
   refine (readBlock_c s w hs hr).mono ?_
   rintro e w1 ⟨A,n,cap,rfl,g,hn,hO⟩
   exact ⟨_,rfl,g,fun W kW => ⟨⟨v0,A,n,cap,L,rfl,rfl,wf_i64 (by have q:=q0; exact ⟨q.1,Int.le_trans q.2 (by decide)⟩),rowK_own (ks:=ksInstr) rfl (by decide) hn (fun x hx => lenInstr x (hL2 x hx)) (ownsRow_heap hO fun i hi => kW.2 i (hO.lt i (by simpa using hi)).1 (hO.lt i (by simpa using hi)).2),hn,by omega,fun x hx => wfInstr (hL2 x hx)⟩,A,n,cap,rfl,by omega,roomB_owns (ownsRow_heap hO fun i hi => kW.2 i (hO.lt i (by simpa using hi)).1 (hO.lt i (by simpa using hi)).2) (Nat.le_refl _)⟩⟩
theorem fieldRowNode (g:Nat) (w:World):(Instr.fieldAt 32 (.pointer (some ⟨g,11,none⟩)) 7).run Tryz.prog w = .ok (.pointer (some ⟨g,18,none⟩)) w:=by
 have h:=run_fieldAt (P:=Tryz.prog) (i:=7) (n:=0) Tryz.underlying32 rfl (by kernel_rfl) w g 11
 simpa using h
theorem fieldRowBlock (g:Nat) (w:World):(Instr.fieldAt 42 (.pointer (some ⟨g,41,none⟩)) 1).run Tryz.prog w = .ok (.pointer (some ⟨g,42,none⟩)) w:=by
 have h:=run_fieldAt (P:=Tryz.prog) (i:=1) (n:=0) Tryz.underlying42 rfl (by kernel_rfl) w g 41
 simpa using h
def RoomC (b0 b1:Nat) (w:World) (A:Option Addr) (m:Nat):Prop :=
 m = 0 ∨ ∃ g cur t,A = some ⟨g,0,none⟩ ∧ w.heap[g]? = some (.cells cur t (0,0)) ∧ m ≤ cur.size ∧ b0 ≤ g ∧ g < b1
theorem RoomB.upto {b0:Nat} {w:World} {A:Option Addr} {m:Nat} (h:RoomB b0 w A m):RoomC b0 w.heap.size w A m:=by
 rcases h with h | ⟨g,cur,t,e,hh,hm,hb⟩
 · exact .inl h
 · exact .inr ⟨g,cur,t,e,hh,hm,hb,(Array.getElem?_eq_some_iff.1 hh).1⟩
theorem RoomC.on {b0 b1:Nat} {W w:World} {A:Option Addr} {m:Nat} (h:RoomC b0 b1 W A m) (k:Wider W w):RoomC b0 b1 w A m:=by
 rcases h with h | ⟨g,cur,t,e,hh,hm,hb⟩
 · exact .inl h
 · exact .inr ⟨g,cur,t,e,wide_blk hh k,hm,hb⟩
theorem RoomC.set {b0 b1:Nat} {w:World} {A:Option Addr} {m:Nat} (h:RoomC b0 b1 w A m) (g j:Nat) (v:Value):RoomC b0 b1 (w.setCell ⟨g,j,none⟩ v) A m:=by
 rcases h with h | ⟨g1,cur,t,e,hh,hm,hb⟩
 · exact .inl h
 · by_cases c:g1 = g
   · subst c
     exact .inr ⟨g1,_,t,e,set_blk v hh,by simpa using hm,hb⟩
   · exact .inr ⟨g1,cur,t,e,but_blk hh (setCell_but w ⟨g,j,none⟩ v) c,hm,hb⟩
structure StR (V:World) (b0 b1:Nat) (N:Array Value) (A1 A2 A3:Option Addr) (m1 m2 m3:Nat) (w:World):Prop where
 wide:Wider V w
 box:w.heap[b1]? = some (.cells N 51 (0,0))
 r1:RoomC b0 b1 w A1 m1
 r2:RoomC b0 b1 w A2 m2
 r3:RoomC b0 b1 w A3 m3
theorem StR.set {V:World} {b0 b1:Nat} {N:Array Value} {A1 A2 A3:Option Addr} {m1 m2 m3:Nat} {w:World} (h:StR V b0 b1 N A1 A2 A3 m1 m2 m3 w) {g:Nat} (hV:V.heap.size ≤ b0) (h1:b0 ≤ g) (h2:g < b1) (j:Nat) (v:Value):StR V b0 b1 N A1 A2 A3 m1 m2 m3 (w.setCell ⟨g,j,none⟩ v) :=
 ⟨(setCell_but w ⟨g,j,none⟩ v).wider h.wide (fun i m => by simp only [List.mem_singleton] at m; subst m; exact Nat.le_trans hV h1),but_blk h.box (setCell_but w ⟨g,j,none⟩ v) (by show b1 ≠ g; omega),h.r1.set g j v,h.r2.set g j v,h.r3.set g j v⟩
end Go.Proofs.YtoopdhgmdjienaaGreatDoor
