/- SMake Blk URow Shape OSameH OSameEntry YEnt SOpen -/
import Derived.Test.YtbnpelciceblfaaGreatQ01
import Derived.Deep.DeepCutAuto
import Derived.WalkLawsBesides
import Derived.BigQuiet
import Derived.Deep.RegionHeld3
import Derived.Laws.CopyOwn
import Derived.Lib.AppendZerosOnto
import Derived.Deep.Frames
namespace Go.Proofs.YtbnpelciceblfaaGreat
set_option linter.unusedVariables false
open Go.RowKit
set_option maxHeartbeats 64000000
def zerosN (n:Nat):Array Value:=madeCells (Value.int .u8 0).cells n
theorem zerosN_at (n j:Nat) (h:j < n):(zerosN n)[j]? = some (.int .u8 0):=by
 unfold zerosN
 have e:(Value.int IntKind.u8 0).cells = #[Value.int .u8 0]:=rfl
 rw [e]
 have m:j % 1 = 0:=by omega
 simp [madeCells,h,m]
theorem infoN:(Tryz.prog.info? 5).map (fun i => (i.zero,i.size,i.bytes)) = some (some (.int .u8 0),1,1):=by kernel_rfl
theorem infoN_parts:∃ i,Tryz.prog.info? 5 = some i ∧ i.zero = some (.int .u8 0) ∧ i.size = 1 ∧ i.bytes = 1:=by
 have h:=infoN
 cases e:Tryz.prog.info? 5 with
 | none => rw [e] at h; cases h
 | some i =>
   rw [e] at h
   simp only [Option.map_some,Option.some.injEq,Prod.mk.injEq] at h
   exact ⟨i,rfl,h.1,h.2.1,h.2.2⟩
theorem makeN (n:Nat) (hn:n < 1000000) (w:World):(Instr.makeSlice 139 (.int .i64 (n:Int)) (.int .i64 (n:Int))).run Tryz.prog w = .ok (.slice (some ⟨w.heap.size,0,none⟩) n n) (w.alloc (.cells (zerosN n) 5)):=by
 obtain ⟨i0,hi,hz0,hz1,hz2⟩:=infoN_parts
 have h:=run_make (P:=Tryz.prog) (w:=w) 139 5 i0 (.int .u8 0) Tryz.underlying139 hi hz0 .i64 .i64 (n:Int) (n:Int) (by omega) (by omega) (by rw [hz2]; omega) (by omega)
 rw [hz1,Int.toNat_natCast,Nat.mul_one] at h
 exact h
structure Bts (w:World) (B n:Nat) (v:Nat → Int):Prop where
 cell:∀ j,j < n → w.cell? ⟨B,j,none⟩ = some (.int .u8 (v j))
 free:∀ j,j < n → w.frozen? ⟨B,j,none⟩ = false
theorem Bts.on {W w:World} {B n:Nat} {v:Nat → Int} (h:Bts W B n v) (g:Wider W w):Bts w B n v :=
 ⟨fun j hj => wkeep g (h.cell j hj),fun j hj => wfree g (h.cell j hj) (h.free j hj)⟩
theorem Bts.congr {w:World} {B n:Nat} {v u:Nat → Int} (h:Bts w B n v) (e:∀ j,j < n → v j = u j):Bts w B n u:=⟨fun j hj => by rw [h.cell j hj,e j hj],h.free⟩
theorem Bts.put {w:World} {B n k:Nat} {y:Int} {v u:Nat → Int} (h:Bts w B n v) (hk:k < n) (e:∀ j,j < n → u j = if j = k then y else v j):Bts (w.setCell ⟨B,k,none⟩ (.int .u8 y)) B n u where
 cell j hj:=by
  rw [e j hj]
  by_cases q:j = k
  · subst q; rw [if_pos rfl]; exact csame (h.cell j hj)
  · rw [if_neg q,cother (by intro r; injection r; omega)]; exact h.cell j hj
 free j hj:=(World.frozen?_setCell _ _ _ _).trans (h.free j hj)
theorem Bts.made (w:World) (n:Nat):Bts (w.alloc (.cells (zerosN n) 5)) w.heap.size n (fun _ => 0) where
 cell j hj:=by rw [World.cell?_alloc_new]; exact zerosN_at n j hj
 free j hj:=by simp [go_sem]
theorem Bts.conv {w:World} {B n:Nat} {v:Nat → Int} (h:Bts w B n v) (cap:Nat) {T:ByteArray} (hT:strOfNums ((List.range n).map v) = T) :
 (convert 139 9 (.slice (some ⟨B,0,none⟩) n cap)).run Tryz.prog w = .ok (.string T) w:=by
 have c:=run_convert_bytes_arg (P:=Tryz.prog) w 139 5 Tryz.underlying139 Tryz.underlying5 B 0 n cap ((List.range n).map v) (by simp) (fun i hi => by
  rw [Nat.zero_add,h.cell i hi,List.getD_eq_getElem?_getD,List.getElem?_map,List.getElem?_range hi]; rfl) 9 Tryz.underlying9
 rw [hT] at c
 exact c
end Go.Proofs.YtbnpelciceblfaaGreat
namespace Go.Proofs.YtbnpelciceblfaaGreat
set_option linter.unusedVariables false
open Go.ChangeShapes Go.WideShapes Go.ChangeAt Go.RowKit Go.Joins
set_option maxHeartbeats 64000000
theorem nums_mkB (l:List UInt8):strOfNums (l.map fun b => (b.toNat:Int)) = mkB l:=by
 apply ba_ext
 rw [strOfNums_data,mkB_data,List.map_map]
 conv => rhs; rw [← List.map_id l]
 refine List.map_congr_left fun b _ => ?_
 show UInt8.ofNat ((b.toNat:Int).toNat) = b
 rw [Int.toNat_natCast]; simp
abbrev blkT (B:Nat) (C:Array Value) (t:TypeId):Thing:=([B],fun w => w.heap[B]? = some (.cells C t (0,0)))
theorem blk_stable (B:Nat) (C:Array Value) (t:TypeId):(blkT B C t).Stable:=fun W w h k => (k B (by simp)).trans h
theorem blk_cell {w:World} {B:Nat} {C:Array Value} {t:TypeId} (h:w.heap[B]? = some (.cells C t (0,0))) (j:Nat) {v:Value} (e:C[j]? = some v):w.cell? ⟨B,j,none⟩ = some v:=by
 unfold World.cell?; simp [h,e]
theorem blk_free {w:World} {B:Nat} {C:Array Value} {t:TypeId} (h:w.heap[B]? = some (.cells C t (0,0))) (j:Nat):w.frozen? ⟨B,j,none⟩ = false:=by
 unfold World.frozen?; simp [h]
theorem Own.blk {V w:World} {L:List Thing} (H:Own V w L) (C:Array Value) (t:TypeId):Own V (w.alloc (.cells C t)) (blkT w.heap.size C t :: L):=by
 have e:(w.alloc (.cells C t)).heap[w.heap.size]? = some (.cells C t (0,0)):=heap_alloc_new w _
 have l:(w.alloc (.cells C t)).heap.size = w.heap.size + 1:=by simp
 exact H.make ((Wider.refl w).alloc _) e (blk_stable _ _ _) fun i hi => by
  obtain rfl:i = w.heap.size:=by simpa using hi
  omega
theorem Own.store {V w:World} {L:List Thing} {B:Nat} {C:Array Value} {t:TypeId} (H:Own V w (blkT B C t :: L)) (j:Nat) (v:Value):Own V (w.setCell ⟨B,j,none⟩ v) (blkT B (C.setIfInBounds j v) t :: L):=by
 have hB:=H.head
 have l:(w.setCell ⟨B,j,none⟩ v).heap.size = w.heap.size:=by simp [World.setCell]
 refine H.turn (setCell_but w ⟨B,j,none⟩ v) ?_ (blk_stable _ _ _) fun i hi => ⟨.inl hi,by rw [l]; exact (H.new _ (.head _) i hi).2⟩
 show (w.setCell ⟨B,j,none⟩ v).heap[B]? = _
 simp only [World.setCell,Array.getElem?_modify,if_true]
 rw [hB]; rfl
theorem Own.split {V w:World} {s:Thing} {M L:List Thing} (H:Own V w (s :: L)) (hM:∀ r ∈ M,r.2 w) (hst:∀ r ∈ M,r.Stable) (hin:∀ r ∈ M,∀ i ∈ r.1,i ∈ s.1) (hap:M.Pairwise fun r q => ∀ i ∈ r.1,i ∉ q.1):Own V w (M ++ L) where
 holds x m:=by
  rcases List.mem_append.1 m with m | m
  · exact hM x m
  · exact H.holds x (.tail _ m)
 new x m i hi:=by
  rcases List.mem_append.1 m with m | m
  · exact H.new s (.head _) i (hin x m i hi)
  · exact H.new x (.tail _ m) i hi
 apart:=by
  have k:=List.pairwise_cons.1 H.apart
  exact List.pairwise_append.2 ⟨hap,k.2,fun r hr q hq i hi => k.1 q hq i (hin r hr i hi)⟩
 stable x m:=by
  rcases List.mem_append.1 m with m | m
  · exact hst x m
  · exact H.stable x (.tail _ m)
 wider:=H.wider
theorem Own.join {V w:World} {s:Thing} {M L:List Thing} (H:Own V w (M ++ L)) (hs:s.2 w) (hst:s.Stable) (hin:∀ i ∈ s.1,∃ r ∈ M,i ∈ r.1):Own V w (s :: L) where
 holds x m:=by
  rcases List.mem_cons.1 m with rfl | m
  · exact hs
  · exact H.holds x (List.mem_append.2 (.inr m))
 new x m i hi:=by
  rcases List.mem_cons.1 m with rfl | m
  · obtain ⟨r,hr,hir⟩:=hin i hi
    exact H.new r (List.mem_append.2 (.inl hr)) i hir
  · exact H.new x (List.mem_append.2 (.inr m)) i hi
 apart:=by
  have k:=List.pairwise_append.1 H.apart
  refine List.pairwise_cons.2 ⟨fun q hq i hi => ?_,k.2.1⟩
  obtain ⟨r,hr,hir⟩:=hin i hi
  exact k.2.2 r hr q hq i hir
 stable x m:=by
  rcases List.mem_cons.1 m with rfl | m
  · exact hst
  · exact H.stable x (List.mem_append.2 (.inr m))
 wider:=H.wider
theorem Own.rowOpen {V w:World} {R:List Thing} {E:TypeId} {k n c:Nat} {A:Option Addr} {xs:List Value} (H:Own V w (rowT E k (.slice A n c) n xs :: R)) (hn:0 < n) :
 ∃ (g:Nat) (cur:List Value),A = some ⟨g,0,none⟩ ∧ n ≤ c ∧ c ≤ maxLen ∧ cur.length = c * k ∧ cur.take (n * k) = xs ∧ Own V w (blkT g cur.toArray E :: R):=by
 have h:=H.head
 rcases h.2 with ⟨q,q2⟩ | ⟨g,cap,cur,q,hb,hg,h1,h2,h3,h4⟩
 · injection q with q1 q2 q3; omega
 · injection q with q1 q2 q3
   subst q1 q3
   refine ⟨g,cur.toList,rfl,h1,h2,by simpa using h3,h4,?_⟩
   refine H.turn (s:=blkT g cur.toList.toArray E) (WBut.refl _ _) (by simpa using hg) (blk_stable _ _ _) fun i hi => ?_
   obtain rfl:i = g:=by simpa using hi
   exact ⟨.inl (by simp [Value.ownBlock]),(Array.getElem?_eq_some_iff.1 hg).1⟩
theorem Own.rowShut {V w:World} {R:List Thing} {E:TypeId} {k n c g:Nat} {cur xs:List Value} (H:Own V w (blkT g cur.toArray E :: R)) (h1:n ≤ c) (h2:c ≤ maxLen) (h3:cur.length = c * k) (h4:cur.take (n * k) = xs) :
 Own V w (rowT E k (.slice (some ⟨g,0,none⟩) n c) n xs :: R):=by
 have hg:=H.head
 refine H.turn (s:=rowT E k (.slice (some ⟨g,0,none⟩) n c) n xs) (WBut.refl _ _) ⟨?_,.inr ⟨g,c,cur.toArray,rfl,Nat.zero_le _,hg,h1,h2,by simpa using h3,by simpa using h4⟩⟩ (rowT_stable _ _ _ _ _) fun i hi => ?_
 · rw [← h4,List.length_take,h3]
   exact Nat.min_eq_left (Nat.mul_le_mul_right _ h1)
 · obtain rfl:i = g:=by simpa [Value.ownBlock] using hi
   exact ⟨.inl (by simp),(Array.getElem?_eq_some_iff.1 hg).1⟩
theorem Own.setRowU {V w:World} {R:List Thing} {B:Nat} {C:Array Value} {t:TypeId} (H:Own V w (blkT B C t :: R)) (C':Array Value):Own V (w.setRow B C') (blkT B C' t :: R):=by
 have hg:=H.head
 have l:(w.setRow B C').heap.size = w.heap.size:=by simp [World.setRow]
 refine H.turn ⟨rfl,rfl,Nat.le_of_eq l.symm,fun i hi hF => ?_⟩ (setRow_heap w B C C' t (0,0) hg) (blk_stable _ _ _) fun i hi => ⟨.inl hi,by rw [l]; exact (H.new _ (.head _) i hi).2⟩
 simp only [World.setRow,Array.getElem?_modify]
 rw [if_neg (fun e => hF (by rw [e]; simp))]
theorem run_copy_at {P:Program} (w:World) (dT sT ty elem:TypeId) (g o k dLen sLen m dCap sCap:Nat) (a:Addr) (cur:Array Value) (t:TypeId) (cs:List Value)
 (hu:P.underlying dT = some (.slice elem)) (hs:(P.info? elem).map (·.size) = some k) (hg:w.heap[g]? = some (.cells cur t (0,0))) (hm:Nat.min sLen dLen = m) (hn:cs.length = m * k)
 (hsrc:∀ j v,cs[j]? = some v → w.cell? (a.add j) = some v) (hfit:o + cs.length ≤ cur.size) (h1:∀ v ∈ cs,v.oneCell' = true) :
 (Builtin.copy_ #[dT,sT] ty #[.slice (some ⟨g,o,none⟩) dLen dCap,.slice (some a) sLen sCap]).run P w =
  .ok (goInt m) (w.setRow g (cur.toList.take o ++ cs ++ cur.toList.drop (o + cs.length)).toArray):=by
 have hl:=run_loadCells_list (P:=P) w a cs hsrc
 have hst:=run_storeCells_at P g o t cs 0 cur w hg (by simpa using hfit) h1
 cases hq:P.info? elem with
 | none => simp [hq] at hs
 | some i =>
   have hi:i.size = k:=by simpa [hq] using hs
   simp [Builtin.copy_,run_underlying hu,Builtin.lenOf,Builtin.firstCells,sizeOf,typeInfo,hq,hi,hm,← hn,hl,hst]
theorem run_clear_at {P:Program} (w:World) (t e ty:TypeId) (z:Value) (k:Nat) (ht:P.underlying t = some (.slice e)) (hv:(zeroValue e).run P w = .ok z w) (hz:z.cells.size = k) (h1:∀ v ∈ (Builtin.zeroCells z.cells 1).toList,v.oneCell' = true)
 (g o c:Nat) (cur:Array Value) (t':TypeId) (hg:w.heap[g]? = some (.cells cur t' (0,0))) (hfit:o + k ≤ cur.size) :
 (Builtin.clear_ #[t] ty #[.slice (some ⟨g,o,none⟩) 1 c]).run P w = .ok (.tuple #[]) (w.setRow g (cur.toList.take o ++ (Builtin.zeroCells z.cells 1).toList ++ cur.toList.drop (o + k)).toArray):=by
 have l:(Builtin.zeroCells z.cells 1).toList.length = k:=by rw [Array.length_toList,size_zeroCells,hz,Nat.one_mul]
 have hst:=run_storeCells_at P g o t' (Builtin.zeroCells z.cells 1).toList 0 cur w hg (by rw [l]; simpa using hfit) h1
 rw [l] at hst
 simp [Builtin.clear_,run_underlying ht,hv,hst]
theorem wpList_copy_u {P:Program} (w:World) {ops:Array Oper} {rest:List Oper} {o:Oper} {a:Act} {Q:Exit → Act → World → Prop} (hgd:o.guard = none) (d s:Operand) (t t':TypeId)
 (ho:o.op = .call { callee:=.builtin .copy,args:=#[d,s],argTypes:=#[t,t'] }) (v u:Value) (hd:a.eval d = v) (hs:a.eval s = u) {v':Value} {w':World}
 (hr:(Builtin.copy_ #[t,t'] o.type #[v,u]).run P w = .ok v' w') (h:wpList P ops Q rest (a.put o.dst v') w'):wpList P ops Q (o :: rest) a w:=by
 refine wpList_plain hgd fun K hK => ?_
 unfold Oper.wp execOp
 simp only [ho,resolve,invoke,builtin,Sem.run_bind,Sem.run_pure,Result.andThen_ok,List.map_toArray,List.map_cons,List.map_nil,hd,hs,hr]
 exact hK _ _ h
theorem wpList_append_u {P:Program} (w:World) {ops:Array Oper} {rest:List Oper} {o:Oper} {a:Act} {Q:Exit → Act → World → Prop} (hgd:o.guard = none) (d s:Operand) (t t':TypeId)
 (ho:o.op = .call { callee:=.builtin .append,args:=#[d,s],argTypes:=#[t,t'] }) (v u:Value) (hd:a.eval d = v) (hs:a.eval s = u) {v':Value} {w':World}
 (hr:(Builtin.append_ #[t,t'] o.type #[v,u]).run P w = .ok v' w') (h:wpList P ops Q rest (a.put o.dst v') w'):wpList P ops Q (o :: rest) a w:=by
 refine wpList_plain hgd fun K hK => ?_
 unfold Oper.wp execOp
 simp only [ho,resolve,invoke,builtin,Sem.run_bind,Sem.run_pure,Result.andThen_ok,List.map_toArray,List.map_cons,List.map_nil,hd,hs,hr]
 exact hK _ _ h
theorem wpList_clear_u {P:Program} (w:World) {ops:Array Oper} {rest:List Oper} {o:Oper} {a:Act} {Q:Exit → Act → World → Prop} (hgd:o.guard = none) (d:Operand) (t:TypeId)
 (ho:o.op = .call { callee:=.builtin .clear,args:=#[d],argTypes:=#[t] }) (v:Value) (hd:a.eval d = v) {v':Value} {w':World}
 (hr:(Builtin.clear_ #[t] o.type #[v]).run P w = .ok v' w') (h:wpList P ops Q rest (a.put o.dst v') w'):wpList P ops Q (o :: rest) a w:=by
 refine wpList_plain hgd fun K hK => ?_
 unfold Oper.wp execOp
 simp only [ho,resolve,invoke,builtin,Sem.run_bind,Sem.run_pure,Result.andThen_ok,List.map_toArray,List.map_cons,List.map_nil,hd,hr]
 exact hK _ _ h
theorem step_copy_u {P:Program} {w w':World} {ops:Array Oper} {o:Oper} {a:Act} {K:Act → World → Prop} {Q:Exit → Act → World → Prop} {E:Prop} (hgd:o.guard = none) (s x:Operand) (t u:TypeId)
 (ho:o.op = .call { callee:=.builtin .copy,args:=#[s,x],argTypes:=#[t,u] }) {vs vx v':Value} (hs:a.eval s = vs) (hx:a.eval x = vx)
 (hr:(Builtin.copy_ #[t,u] o.type #[vs,vx]).run P w = .ok v' w') (h:K (a.put o.dst v') w'):if Region.wanted o (yielded ops a.tmps) = true then Oper.wp P o a w K Q else E:=by
 have hw:Region.wanted o (yielded ops a.tmps) = true:=by simp [Region.wanted,hgd]
 rw [if_pos hw]
 unfold Oper.wp execOp
 simp only [ho,resolve,invoke,builtin,Sem.run_bind,Sem.run_pure,Result.andThen_ok,List.map_toArray,List.map_cons,List.map_nil,hs,hx,hr]
 exact h
theorem step_append_u {P:Program} {w w':World} {ops:Array Oper} {o:Oper} {a:Act} {K:Act → World → Prop} {Q:Exit → Act → World → Prop} {E:Prop} (hgd:o.guard = none) (s x:Operand) (t u:TypeId)
 (ho:o.op = .call { callee:=.builtin .append,args:=#[s,x],argTypes:=#[t,u] }) {vs vx v':Value} (hs:a.eval s = vs) (hx:a.eval x = vx)
 (hr:(Builtin.append_ #[t,u] o.type #[vs,vx]).run P w = .ok v' w') (h:K (a.put o.dst v') w'):if Region.wanted o (yielded ops a.tmps) = true then Oper.wp P o a w K Q else E:=by
 have hw:Region.wanted o (yielded ops a.tmps) = true:=by simp [Region.wanted,hgd]
 rw [if_pos hw]
 unfold Oper.wp execOp
 simp only [ho,resolve,invoke,builtin,Sem.run_bind,Sem.run_pure,Result.andThen_ok,List.map_toArray,List.map_cons,List.map_nil,hs,hx,hr]
 exact h
end Go.Proofs.YtbnpelciceblfaaGreat
namespace Go.Proofs.YtbnpelciceblfaaGreat
set_option linter.unusedVariables false
open Go.ChangeShapes Go.WideShapes Go.RowKit Go.Deep
set_option maxHeartbeats 64000000
inductive Sh where
 | int (k:IntKind)
 | bool
 | str
 | row (s:Sh)
 | tup (fs:List Sh)
mutual
def Sh.size:Sh → Nat
 | .int _ => 1
 | .bool => 1
 | .str => 1
 | .row _ => 1
 | .tup fs => Sh.sizes fs
def Sh.sizes:List Sh → Nat
 | [] => 0
 | s :: r => s.size + Sh.sizes r
end
mutual
def Sh.fits (P:Program):Sh → TypeId → Bool
 | .int k,t => match P.underlying t with
   | some (.int k') => decide (k' = k)
   | _ => false
 | .bool,t => match P.underlying t with
   | some .bool => true
   | _ => false
 | .str,t => match P.underlying t with
   | some .string => true
   | _ => false
 | .row s,t => match P.underlying t with
   | some (.slice e) => P.cellsOf e == s.size && s.fits P e
   | _ => false
 | .tup fs,t => match P.underlying t with
   | some (.struct F) => P.cellsOf t == Sh.sizes fs && Sh.fitsAll P fs 0 F.toList
   | _ => false
def Sh.fitsAll (P:Program):List Sh → Nat → List Field → Bool
 | [],_,[] => true
 | s :: r,off,f :: q => f.offset == off && P.cellsOf f.type == s.size && s.fits P f.type && Sh.fitsAll P r (off + s.size) q
 | _,_,_ => false
end
structure RowAt (w:World) (A:Option Addr) (size:Nat) (l:List (List Value)):Prop where
 none_:A = none → l = []
 cell:∀ a,A = some a → ∀ j x,l[j]? = some x → x.length = size ∧ ∀ i v,x[i]? = some v → w.cell? ((a.add (j * size)).add i) = some v
theorem RowAt.on {W w:World} {A:Option Addr} {size:Nat} {l:List (List Value)} (h:RowAt W A size l) (g:Wider W w):RowAt w A size l :=
 ⟨h.none_,fun a e j x hx => ⟨(h.cell a e j x hx).1,fun i v hv => wkeep g ((h.cell a e j x hx).2 i v hv)⟩⟩
mutual
def Sh.ok (w:World):Sh → List Value → Prop
 | .int k,cs => ∃ n,cs = [.int k n] ∧ (Lit.int k n).wf = true
 | .bool,cs => ∃ b,cs = [.bool b]
 | .str,cs => ∃ s:ByteArray,cs = [.string s] ∧ s.size ≤ maxLen
 | .row s,cs => ∃ (A:Option Addr) (len cap:Nat) (l:List (List Value)),cs = [.slice A len cap] ∧ l.length = len ∧ len ≤ cap ∧ cap ≤ maxLen ∧ RowAt w A s.size l ∧ ∀ x ∈ l,s.ok w x
 | .tup fs,cs => Sh.oks w fs cs
def Sh.oks (w:World):List Sh → List Value → Prop
 | [],cs => cs = []
 | s :: r,cs => ∃ a b,cs = a ++ b ∧ s.ok w a ∧ Sh.oks w r b
end
variable {H:Type} {enc:TypeId × Value → H} {P:Program} {w:World} {base:Nat}
mutual
theorem Sh.open:∀ (s:Sh) (t:TypeId) (fuel:Nat) (cs:List Value) (x:DataW H × List MemPlace),s.fits P t = true → DataW.trod enc P w base (fun _ => true) true fuel t cs = some x → s.ok w cs
 | .int k,t,fuel,cs,x,hf,h => by
   unfold Sh.fits at hf
   split at hf
   · rename_i k' hu
     obtain rfl:=of_decide_eq_true hf
     obtain ⟨n,rfl,_,wn⟩:=DataW.trod_int hu h
     exact ⟨n,rfl,wn⟩
   · cases hf
 | .bool,t,fuel,cs,x,hf,h => by
   unfold Sh.fits at hf
   split at hf
   · rename_i hu
     obtain ⟨b,rfl,_⟩:=DataW.trod_bool hu h
     exact ⟨b,rfl⟩
   · cases hf
 | .str,t,fuel,cs,x,hf,h => by
   unfold Sh.fits at hf
   split at hf
   · rename_i hu
     obtain ⟨b,rfl,_,wn⟩:=DataW.trod_string hu h
     exact ⟨b,rfl,wn⟩
   · cases hf
 | .row s,t,fuel,cs,x,hf,h => by
   unfold Sh.fits at hf
   split at hf
   · rename_i e hu
     simp only [Bool.and_eq_true,beq_iff_eq] at hf
     obtain ⟨hc,hs⟩:=hf
     have ih:=fun (n:Nat) (cs:List Value) (x:DataW H × List MemPlace) => Sh.open s e n cs x hs
     unfold Sh.ok
     rcases open_slice hu h with ⟨rfl,_⟩ | ⟨a,len,cap,m,n,D,Pl,rfl,hb,hl,hm,hmm,_,hi⟩
     · exact ⟨none,0,0,[],rfl,rfl,Nat.le_refl _,Nat.zero_le _,⟨fun _ => rfl,fun a e => by cases e⟩,fun x hx => by cases hx⟩
     · simp only [if_true] at hmm
       subst hmm
       rw [hc] at hi
       have hk:∀ i,i < len → ∃ cs',s.ok w cs' ∧ cs'.length = s.size ∧ ∀ j v,cs'[j]? = some v → w.cell? ((a.add (i * s.size)).add j) = some v:=by
        intro i hlt
        obtain ⟨cs',h1,h2⟩:=hi i (by omega)
        obtain ⟨_,hcl,hat⟩:=World.cells?_some h1
        refine ⟨cs',ih _ _ _ h2,hcl,fun j v hv => ?_⟩
        have hj:j < cs'.length:=(List.getElem?_eq_some_iff.1 hv).1
        rw [hat j (by omega)]; exact hv
       obtain ⟨F,hF⟩:=choose_lt (α:=List Value) (p:=fun i cs' => s.ok w cs' ∧ cs'.length = s.size ∧ ∀ j v,cs'[j]? = some v → w.cell? ((a.add (i * s.size)).add j) = some v) hk
       refine ⟨some a,len,m,(List.range len).map F,rfl,by simp,hl,hm,⟨(fun e => by cases e),fun b e j x hx => ?_⟩,fun x hx => ?_⟩
       · obtain rfl:a = b:=by injection e
         rw [List.getElem?_map] at hx
         by_cases c:j < len
         · rw [List.getElem?_range c] at hx
           simp only [Option.map_some,Option.some.injEq] at hx
           rw [← hx]; exact (hF j c).2
         · rw [List.getElem?_eq_none (by simpa using c)] at hx
           cases hx
       · obtain ⟨i,hi2,rfl⟩:=List.mem_map.1 hx
         exact (hF i (List.mem_range.1 hi2)).1
   · cases hf
 | .tup fs,t,fuel,cs,x,hf,h => by
   unfold Sh.fits at hf
   split at hf
   · rename_i F hu
     simp only [Bool.and_eq_true,beq_iff_eq] at hf
     obtain ⟨hc,hs⟩:=hf
     obtain ⟨xs,n,_,_,hlen,hxl,hg⟩:=DataW.trod_struct hu h
     have k:=Sh.opens fs 0 F.toList cs hs (fun f hf => by
      obtain ⟨i,hi,rfl⟩:=List.getElem_of_mem hf
      have g:=hg i F.toList[i] (by rw [← Array.getElem?_toList]; exact List.getElem?_eq_getElem hi)
      have hi2:i < xs.length:=by rw [hxl]; simpa using hi
      exact ⟨n,xs[i],by rw [g]; exact List.getElem?_eq_getElem hi2⟩)
     unfold Sh.ok
     rw [List.drop_zero,List.take_of_length_le (by omega)] at k
     exact k
   · cases hf
theorem Sh.opens:∀ (fs:List Sh) (off:Nat) (F:List Field) (cs:List Value),Sh.fitsAll P fs off F = true →
 (∀ f ∈ F,∃ n y,DataW.trod enc P w base (fun _ => true) true n f.type ((cs.drop f.offset).take (P.cellsOf f.type)) = some y) → Sh.oks w fs ((cs.drop off).take (Sh.sizes fs))
 | [],off,F,cs,hf,h => by unfold Sh.oks Sh.sizes; simp
 | s :: r,off,F,cs,hf,h => by
   match F,hf with
   | f :: q,hf =>
     unfold Sh.fitsAll at hf
     simp only [Bool.and_eq_true,beq_iff_eq] at hf
     obtain ⟨⟨⟨h1,h2⟩,h3⟩,h4⟩:=hf
     obtain ⟨n,y,hy⟩:=h f (.head _)
     rw [h1,h2] at hy
     have k1:=Sh.open s f.type n _ y h3 hy
     have k2:=Sh.opens r (off + s.size) q cs h4 (fun g hg => h g (.tail _ hg))
     unfold Sh.oks Sh.sizes
     exact ⟨_,_,by rw [List.take_add,List.drop_drop],k1,k2⟩
   | [],hf => unfold Sh.fitsAll at hf; cases hf
end
theorem open_arg {s:Sh} {fs:List Sh} {t:TypeId} {r:Reach} {b0:Nat} {v:Value} {d:DataW H} {p:List MemPlace} (hs:s = .tup fs) (hf:s.fits P t = true) (hv:Value.okWide P w r b0 t v)
 (h:DataW.Trod enc P w base (fun _ => true) true t v d p):∃ cs,v = .agg cs ∧ Sh.oks w fs cs.toList:=by
 subst hs
 obtain ⟨fuel,hfu⟩:=h
 have k:=Sh.open (.tup fs) t fuel _ _ hf hfu
 unfold Sh.fits at hf
 split at hf
 · rename_i F hu
   obtain ⟨cs,rfl,_⟩:=okWide_struct hu hv
   unfold Sh.ok at k
   exact ⟨cs,rfl,k⟩
 · cases hf
theorem oks_nil {cs:List Value} (h:Sh.oks w [] cs):cs = []:=by unfold Sh.oks at h; exact h
theorem oks_int {k:IntKind} {r:List Sh} {cs:List Value} (h:Sh.oks w (.int k :: r) cs):∃ n b,cs = .int k n :: b ∧ (Lit.int k n).wf = true ∧ Sh.oks w r b:=by
 unfold Sh.oks at h
 obtain ⟨a,b,rfl,h1,h2⟩:=h
 unfold Sh.ok at h1
 obtain ⟨n,rfl,wn⟩:=h1
 exact ⟨n,b,rfl,wn,h2⟩
theorem oks_bool {r:List Sh} {cs:List Value} (h:Sh.oks w (.bool :: r) cs):∃ n b,cs = .bool n :: b ∧ Sh.oks w r b:=by
 unfold Sh.oks at h
 obtain ⟨a,b,rfl,h1,h2⟩:=h
 unfold Sh.ok at h1
 obtain ⟨n,rfl⟩:=h1
 exact ⟨n,b,rfl,h2⟩
theorem oks_str {r:List Sh} {cs:List Value} (h:Sh.oks w (.str :: r) cs):∃ (n:ByteArray) (b:List Value),cs = .string n :: b ∧ n.size ≤ maxLen ∧ Sh.oks w r b:=by
 unfold Sh.oks at h
 obtain ⟨a,b,rfl,h1,h2⟩:=h
 unfold Sh.ok at h1
 obtain ⟨n,rfl,wn⟩:=h1
 exact ⟨n,b,rfl,wn,h2⟩
theorem oks_row {s:Sh} {r:List Sh} {cs:List Value} (h:Sh.oks w (.row s :: r) cs):∃ (A:Option Addr) (len cap:Nat) (l:List (List Value)) (b:List Value),cs = .slice A len cap :: b ∧ l.length = len ∧ len ≤ cap ∧ cap ≤ maxLen ∧ RowAt w A s.size l ∧ (∀ x ∈ l,s.ok w x) ∧ Sh.oks w r b:=by
 unfold Sh.oks at h
 obtain ⟨a,b,rfl,h1,h2⟩:=h
 unfold Sh.ok at h1
 obtain ⟨A,len,cap,l,rfl,k1,k2,k3,k4,k5⟩:=h1
 exact ⟨A,len,cap,l,b,rfl,k1,k2,k3,k4,k5,h2⟩
end Go.Proofs.YtbnpelciceblfaaGreat
namespace Go.Proofs.YtbnpelciceblfaaGreat
set_option linter.unusedVariables false
open Go.ChangeShapes Go.WideShapes Go.ChangeAt Go.RowKit Go.Joins
open Go.ChangeMaps (open_string shut_string)
set_option maxHeartbeats 64000000
theorem row_cell {w:World} {a:Addr} {size:Nat} {l:List (List Value)} (h:RowAt w (some a) size l) {j:Nat} {x:List Value} (hx:l[j]? = some x):(∀ v,x[0]? = some v → w.cell? (a.add (j * size)) = some v) ∧ ∀ i v,x[i + 1]? = some v → w.cell? ⟨(a.add (j * size)).block,(a.add (j * size)).off + (i + 1),none⟩ = some v:=by
 have k:=(h.cell a rfl j x hx).2
 refine ⟨fun v hv => ?_,fun i v hv => ?_⟩
 · have q:=k 0 v hv
   rw [Addr.add_zero'] at q; exact q
 · have q:=k (i + 1) v hv
   rw [Addr.add_succ'] at q; exact q
theorem take_one {α:Type} {l k:List α} {j:Nat} {x:α} (h:l.take j = k.take j) (h1:l[j]? = some x) (h2:k[j]? = some x):l.take (j + 1) = k.take (j + 1):=by
 obtain ⟨a,e1⟩:=List.getElem?_eq_some_iff.1 h1
 obtain ⟨b,e2⟩:=List.getElem?_eq_some_iff.1 h2
 rw [List.take_succ_eq_append_getElem a,List.take_succ_eq_append_getElem b,h,e1,e2]
theorem rsameEntry_c (W:World) (a0:Int) (a1:ByteArray) (a2:ByteArray) (a3:Int) (a4:Int) (a5:Int) (a7:Int) (a8:Int) (a9:Int) (a10:Bool) (b0:Int) (b1:ByteArray) (b2:ByteArray) (b3:Int) (b4:Int) (b5:Int) (b7:Int) (b8:Int) (b9:Int) (b10:Bool) (A B:Option Addr) (n cap m cap2:Nat) (l l2:List (List Value)) (hA:RowAt W A 1 l) (hB:RowAt W B 1 l2) (hn:l.length = n) (hm:l2.length = m) (hn9:n < 1000000) (hs:∀ x ∈ l,(∃ v0:Int,x = [.int .u64 v0])) (hs2:∀ x ∈ l2,(∃ v0:Int,x = [.int .u64 v0])) {r:Bool} (hr:(l = l2 ∧ a0 = b0 ∧ a1 = b1 ∧ a2 = b2 ∧ a3 = b3 ∧ a4 = b4 ∧ a5 = b5 ∧ a7 = b7 ∧ a8 = b8 ∧ a9 = b9 ∧ a10 = b10) ↔ r = true) :
 Calls Tryz.prog 25 #[.agg #[.int .i64 a0,.string a1,.string a2,.int .i64 a3,.int .i64 a4,.int .i64 a5,.slice A n cap,.int .i64 a7,.int .i64 a8,.int .u64 a9,.bool a10],.agg #[.int .i64 b0,.string b1,.string b2,.int .i64 b3,.int .i64 b4,.int .i64 b5,.slice B m cap2,.int .i64 b7,.int .i64 b8,.int .u64 b9,.bool b10]] W fun e w' => e = .returned (.bool r) ∧ Wider W w':=by
 by_cases hl0:n = m
 · subst hl0
   have HN:=Lib.hid hn
   have HM:=Lib.hid hm
   have HS:=Lib.hid hs
   have HS2:=Lib.hid hs2
   have HR:=Lib.hid hr
   clear hs hs2 hn hm hr
   go_enter Tryz.func25,Tryz.ntmps25
   go_wp2
   go_loopw [5] (fun i wr => ∃ j:Nat,j ≤ n ∧ i = .int .i64 (j:Int) ∧ l.take j = l2.take j ∧ ∃ q:Nat,wr = World.drewN ((W.alloc (.cells #[.int .i64 a0,.string a1,.string a2,.int .i64 a3,.int .i64 a4,.int .i64 a5,.slice A n cap,.int .i64 a7,.int .i64 a8,.int .u64 a9,.bool a10] 26)).alloc (.cells #[.int .i64 b0,.string b1,.string b2,.int .i64 b3,.int .i64 b4,.int .i64 b5,.slice B n cap2,.int .i64 b7,.int .i64 b8,.int .u64 b9,.bool b10] 26)) q) (fun i _ => n - (intOf i).toNat)
   case atStart => exact ⟨0,by omega,by simp,rfl,0,rfl⟩
   case round =>
    obtain ⟨j,hj,rfl,hjt,q,rfl⟩:=hrel
    have hA2:=hA.on (((Wider.refl W).alloc (.cells #[.int .i64 a0,.string a1,.string a2,.int .i64 a3,.int .i64 a4,.int .i64 a5,.slice A n cap,.int .i64 a7,.int .i64 a8,.int .u64 a9,.bool a10] 26)).alloc (.cells #[.int .i64 b0,.string b1,.string b2,.int .i64 b3,.int .i64 b4,.int .i64 b5,.slice B n cap2,.int .i64 b7,.int .i64 b8,.int .u64 b9,.bool b10] 26))
    have hB2:=hB.on (((Wider.refl W).alloc (.cells #[.int .i64 a0,.string a1,.string a2,.int .i64 a3,.int .i64 a4,.int .i64 a5,.slice A n cap,.int .i64 a7,.int .i64 a8,.int .u64 a9,.bool a10] 26)).alloc (.cells #[.int .i64 b0,.string b1,.string b2,.int .i64 b3,.int .i64 b4,.int .i64 b5,.slice B n cap2,.int .i64 b7,.int .i64 b8,.int .u64 b9,.bool b10] 26))
    have HJ:=Lib.hid hjt
    clear hjt
    by_cases c:j < n
    · have j0:(0:Int) ≤ (j:Int):=by omega
      have j1:(j:Int) < (n:Int):=by omega
      obtain ⟨x,hx⟩ : ∃ x,l[j]? = some x:=⟨l[j]'(by have:=HN.out; omega),List.getElem?_eq_getElem _⟩
      obtain ⟨y,hy⟩ : ∃ y,l2[j]? = some y:=⟨l2[j]'(by have:=HM.out; omega),List.getElem?_eq_getElem _⟩
      cases A with
      | none => exact absurd (hA.none_ rfl) (by intro e; rw [e] at hx; simp at hx)
      | some A0 =>
        cases B with
        | none => exact absurd (hB.none_ rfl) (by intro e; rw [e] at hy; simp at hy)
        | some B0 =>
          obtain ⟨x0,rfl⟩:=HS.out x (List.mem_of_getElem? hx)
          obtain ⟨y0,rfl⟩:=HS2.out y (List.mem_of_getElem? hy)
          have kx:=row_cell hA2 hx
          have ky:=row_cell hB2 hy
          have cx0:=kx.1 _ rfl
          have cy0:=ky.1 _ rfl
          rw [Nat.mul_one] at cx0 cy0
          have HX:=Lib.hid hx
          have HY:=Lib.hid hy
          clear kx ky hx hy hA2 hB2
          by_cases z0:x0 = y0
          · subst z0
            go_wp2
            go_quiet (fail)
            go_wp2
            go_roundw
            case rel => exact ⟨j + 1,by omega,by go_num,take_one HJ.out HX.out HY.out,_,rfl⟩
            case measure => simp [intOf]; omega
          · have g0:(x0 == y0) = false:=by rw [beq_eq_false_iff_ne]; exact z0
            obtain rfl:r = false:=by
             cases r with
             | false => rfl
             | true =>
               have h:=HR.out.2 rfl
               have h1:=HX.out
               rw [h.1,HY.out] at h1
               simp at h1
               exact absurd h1.symm z0
            clear z0
            go_wp2
            go_quiet (fail)
            go_wp2
            go_ret
            exact ⟨rfl,((((Wider.refl W).alloc _).alloc _).drewN q).drewN nq⟩
    · have hl:l = l2:=by
       have h:=HJ.out
       rw [List.take_of_length_le (by have:=HN.out; omega),List.take_of_length_le (by have:=HM.out; omega)] at h
       exact h
      have hr:=HR.out
      have i1:¬ (j:Int) < (n:Int):=by omega
      by_cases e0:a0 = b0
      · subst e0
        by_cases e1:a1 = b1
        · subst e1
          by_cases e2:a2 = b2
          · subst e2
            by_cases e3:a3 = b3
            · subst e3
              by_cases e4:a4 = b4
              · subst e4
                by_cases e5:a5 = b5
                · subst e5
                  by_cases e7:a7 = b7
                  · subst e7
                    by_cases e8:a8 = b8
                    · subst e8
                      by_cases e9:a9 = b9
                      · subst e9
                        by_cases e10:a10 = b10
                        · subst e10
                          obtain rfl:r = true:=hr.1 ⟨hl,rfl,rfl,rfl,rfl,rfl,rfl,rfl,rfl,rfl,rfl⟩
                          clear hr
                          clear HR hl
                          go_wp2
                          go_ret
                          exact ⟨rfl,(((Wider.refl W).alloc _).alloc _).drewN q⟩
                        · have f10:(a10 == b10) = false:=by rw [beq_eq_false_iff_ne]; exact e10
                          obtain rfl:r = false:=by cases r with | false => rfl | true => (have h:=hr.2 rfl; exact absurd (h.2.2.2.2.2.2.2.2.2.2) e10)
                          clear hr e10
                          clear HR hl
                          go_wp2
                          go_ret
                          exact ⟨rfl,(((Wider.refl W).alloc _).alloc _).drewN q⟩
                      · have f9:(a9 == b9) = false:=by rw [beq_eq_false_iff_ne]; exact e9
                        obtain rfl:r = false:=by cases r with | false => rfl | true => (have h:=hr.2 rfl; exact absurd (h.2.2.2.2.2.2.2.2.2.1) e9)
                        clear hr e9
                        clear HR hl
                        go_wp2
                        go_ret
                        exact ⟨rfl,(((Wider.refl W).alloc _).alloc _).drewN q⟩
                    · have f8:(a8 == b8) = false:=by rw [beq_eq_false_iff_ne]; exact e8
                      obtain rfl:r = false:=by cases r with | false => rfl | true => (have h:=hr.2 rfl; exact absurd (h.2.2.2.2.2.2.2.2.1) e8)
                      clear hr e8
                      clear HR hl
                      go_wp2
                      go_ret
                      exact ⟨rfl,(((Wider.refl W).alloc _).alloc _).drewN q⟩
                  · have f7:(a7 == b7) = false:=by rw [beq_eq_false_iff_ne]; exact e7
                    obtain rfl:r = false:=by cases r with | false => rfl | true => (have h:=hr.2 rfl; exact absurd (h.2.2.2.2.2.2.2.1) e7)
                    clear hr e7
                    clear HR hl
                    go_wp2
                    go_ret
                    exact ⟨rfl,(((Wider.refl W).alloc _).alloc _).drewN q⟩
                · have f5:(a5 == b5) = false:=by rw [beq_eq_false_iff_ne]; exact e5
                  obtain rfl:r = false:=by cases r with | false => rfl | true => (have h:=hr.2 rfl; exact absurd (h.2.2.2.2.2.2.1) e5)
                  clear hr e5
                  clear HR hl
                  go_wp2
                  go_ret
                  exact ⟨rfl,(((Wider.refl W).alloc _).alloc _).drewN q⟩
              · have f4:(a4 == b4) = false:=by rw [beq_eq_false_iff_ne]; exact e4
                obtain rfl:r = false:=by cases r with | false => rfl | true => (have h:=hr.2 rfl; exact absurd (h.2.2.2.2.2.1) e4)
                clear hr e4
                clear HR hl
                go_wp2
                go_ret
                exact ⟨rfl,(((Wider.refl W).alloc _).alloc _).drewN q⟩
            · have f3:(a3 == b3) = false:=by rw [beq_eq_false_iff_ne]; exact e3
              obtain rfl:r = false:=by cases r with | false => rfl | true => (have h:=hr.2 rfl; exact absurd (h.2.2.2.2.1) e3)
              clear hr e3
              clear HR hl
              go_wp2
              go_ret
              exact ⟨rfl,(((Wider.refl W).alloc _).alloc _).drewN q⟩
          · have f2:(a2.toList == b2.toList) = false:=by
             rw [beq_eq_false_iff_ne,ByteArray.toList_eq,ByteArray.toList_eq]; intro p; exact e2 (ba_ext p)
            obtain rfl:r = false:=by cases r with | false => rfl | true => (have h:=hr.2 rfl; exact absurd (h.2.2.2.1) e2)
            clear hr e2
            clear HR hl
            go_wp2
            go_ret
            exact ⟨rfl,(((Wider.refl W).alloc _).alloc _).drewN q⟩
        · have f1:(a1.toList == b1.toList) = false:=by
           rw [beq_eq_false_iff_ne,ByteArray.toList_eq,ByteArray.toList_eq]; intro p; exact e1 (ba_ext p)
          obtain rfl:r = false:=by cases r with | false => rfl | true => (have h:=hr.2 rfl; exact absurd (h.2.2.1) e1)
          clear hr e1
          clear HR hl
          go_wp2
          go_ret
          exact ⟨rfl,(((Wider.refl W).alloc _).alloc _).drewN q⟩
      · have f0:(a0 == b0) = false:=by rw [beq_eq_false_iff_ne]; exact e0
        obtain rfl:r = false:=by cases r with | false => rfl | true => (have h:=hr.2 rfl; exact absurd (h.2.1) e0)
        clear hr e0
        clear HR hl
        go_wp2
        go_ret
        exact ⟨rfl,(((Wider.refl W).alloc _).alloc _).drewN q⟩
 · have hl:¬ l = l2:=fun h => hl0 (by rw [← hn,← hm,h])
   obtain rfl:r = false:=by cases r with | false => rfl | true => exact absurd (hr.2 rfl).1 hl
   have k0:((n:Int) != (m:Int)) = true:=by rw [bne_iff_ne]; omega
   clear hr hl
   go_enter Tryz.func25,Tryz.ntmps25
   go_wp2
   go_ret
   exact ⟨rfl,((Wider.refl W).alloc _).alloc _⟩
end Go.Proofs.YtbnpelciceblfaaGreat
namespace Go.Proofs.YtbnpelciceblfaaGreat
set_option linter.unusedVariables false
open Go.ChangeShapes Go.WideShapes Go.ChangeAt Go.RowKit Go.Joins
set_option maxHeartbeats 64000000
def u64s (l:List Int):List Value:=l.map fun v => Value.int .u64 v
theorem u64s_length (l:List Int):(u64s l).length = l.length:=by simp [u64s]
theorem u64s_one (l:List Int):∀ u ∈ u64s l,u.oneCell' = true:=by
 intro u hu
 obtain ⟨x,_,rfl⟩:=List.mem_map.1 hu
 rfl
def ArgsAt (w:World) (av:Value) (l:List Int):Prop:=∃ A n cap,av = .slice A n cap ∧ l.length = n ∧ (A = none → l = []) ∧ ∀ a,A = some a → ∀ (j:Nat) (v:Int),l[j]? = some v → w.cell? (a.add j) = some (.int .u64 v)
theorem ArgsAt.on {W w:World} {av:Value} {l:List Int} (h:ArgsAt W av l) (g:Wider W w):ArgsAt w av l:=by
 obtain ⟨A,n,cap,e,hn,h0,h1⟩:=h
 exact ⟨A,n,cap,e,hn,h0,fun a ea j v hj => wkeep g (h1 a ea j v hj)⟩
theorem ArgsAt.row {w:World} {E:TypeId} {v:Value} {n:Nat} {l:List Int} (h:w.ownsRow 0 E 1 v n (u64s l)) (hn:l.length = n):ArgsAt w v l:=by
 obtain ⟨A,cap,rfl⟩:=ownsRow_shape h
 refine ⟨A,n,cap,rfl,hn,?_,?_⟩
 · intro e
   subst e
   rcases h.2 with ⟨q,q2⟩ | ⟨g,c,cur,q,r⟩
   · exact List.eq_nil_of_length_eq_zero (hn.trans q2)
   · cases q
 · intro a e j v hj
   subst e
   rcases h.2 with ⟨q,q2⟩ | ⟨g,c,cur,q,r⟩
   · cases q
   · cases q
     exact h.cells (g:=g) rfl j _ (by unfold u64s; rw [List.getElem?_map,hj]; rfl)
theorem ArgsAt.rowAt {w:World} {A:Option Addr} {n cap:Nat} {l:List Int} (h:ArgsAt w (.slice A n cap) l):l.length = n ∧ RowAt w A 1 (l.map fun v => [Value.int .u64 v]):=by
 obtain ⟨A',n',cap',e,hn,h0,h1⟩:=h
 injection e with e1 e2 e3
 subst e1 e2 e3
 refine ⟨hn,fun e => by rw [h0 e]; rfl,fun a e j x hj => ?_⟩
 rw [List.getElem?_map] at hj
 cases q:l[j]? with
 | none => rw [q] at hj; cases hj
 | some v =>
   rw [q] at hj
   obtain rfl:[Value.int .u64 v] = x:=by simpa using hj
   refine ⟨rfl,fun i u hi => ?_⟩
   match i,hi with
   | 0,hi =>
     obtain rfl:Value.int .u64 v = u:=by simpa using hi
     have z:(a.add (j * 1)).add 0 = a.add j:=by rw [Nat.mul_one]; unfold Addr.add; simp
     rw [z]; exact h1 a e j v q
   | i + 1,hi => simp at hi
abbrev entC (x:EntV) (av:Value):Array Value:=#[.int .i64 x.tb,.string x.key,.string x.oth,.int .i64 x.ln,.int .i64 x.pr,.int .i64 x.bk,av,.int .i64 x.idle,.int .i64 x.hard,.int .u64 x.ck,.bool x.tl]
abbrev entV (x:EntV) (av:Value):Value:=.agg (entC x av)
structure EntM where
 x:EntV
 av:Value
def cellsE (l:List EntM):List Value:=l.flatMap fun e => (entC e.x e.av).toList
theorem cellsE_cons (e:EntM) (l:List EntM):cellsE (e :: l) = (entC e.x e.av).toList ++ cellsE l:=rfl
theorem cellsE_length:∀ l:List EntM,(cellsE l).length = l.length * 11
 | [] => rfl
 | e :: l => by
   rw [cellsE_cons,List.length_append,cellsE_length l]
   show 11 + l.length * 11 = _
   simp only [List.length_cons]; omega
theorem cellsE_at:∀ (l:List EntM) (j:Nat) (e:EntM),l[j]? = some e → ∀ i,i < 11 → (cellsE l)[j * 11 + i]? = (entC e.x e.av)[i]?
 | [],j,e,h,i,hi => by simp at h
 | y :: l,0,e,h,i,hi => by
   obtain rfl:y = e:=by simpa using h
   rw [cellsE_cons,Nat.zero_mul,Nat.zero_add,List.getElem?_append_left (show i < 11 from hi)]
   simp
 | y :: l,j + 1,e,h,i,hi => by
   have h:l[j]? = some e:=by simpa using h
   rw [cellsE_cons,List.getElem?_append_right (show 11 ≤ (j + 1) * 11 + i by omega)]
   show (cellsE l)[(j + 1) * 11 + i - 11]? = _
   rw [show (j + 1) * 11 + i - 11 = j * 11 + i by omega]
   exact cellsE_at l j e h i hi
def EntAt (w:World) (B j:Nat) (x:EntV):Prop:=∃ av,ArgsAt w av x.args ∧ ∀ i,i < 11 → w.cell? ⟨B,j * 11 + i,none⟩ = (entC x av)[i]?
def EntsAt (w:World) (A:Option Addr) (L:List EntV):Prop:=∀ (j:Nat) (x:EntV),L[j]? = some x → ∃ B,A = some ⟨B,0,none⟩ ∧ EntAt w B j x
theorem EntAt.on {W w:World} {B j:Nat} {x:EntV} (h:EntAt W B j x) (g:Wider W w):EntAt w B j x:=by
 obtain ⟨av,ha,hc⟩:=h
 refine ⟨av,ha.on g,fun i hi => ?_⟩
 obtain ⟨v,hv⟩ : ∃ v,(entC x av)[i]? = some v:=⟨(entC x av)[i]'(show i < 11 from hi),Array.getElem?_eq_getElem _⟩
 rw [hv]
 exact wkeep g ((hc i hi).trans hv)
theorem EntsAt.on {W w:World} {A:Option Addr} {L:List EntV} (h:EntsAt W A L) (g:Wider W w):EntsAt w A L:=fun j x hj => by
 obtain ⟨B,e,k⟩:=h j x hj
 exact ⟨B,e,k.on g⟩
theorem EntAt.cells {w:World} {B j:Nat} {x:EntV} (h:EntAt w B j x):∃ A n cap,x.args.length = n ∧ ArgsAt w (.slice A n cap) x.args ∧ w.cell? ⟨B,j * 11,none⟩ = some (.int .i64 x.tb) ∧ w.cell? ⟨B,j * 11 + 1,none⟩ = some (.string x.key) ∧ w.cell? ⟨B,j * 11 + 2,none⟩ = some (.string x.oth) ∧ w.cell? ⟨B,j * 11 + 3,none⟩ = some (.int .i64 x.ln) ∧ w.cell? ⟨B,j * 11 + 4,none⟩ = some (.int .i64 x.pr) ∧ w.cell? ⟨B,j * 11 + 5,none⟩ = some (.int .i64 x.bk) ∧ w.cell? ⟨B,j * 11 + 6,none⟩ = some (.slice A n cap) ∧ w.cell? ⟨B,j * 11 + 7,none⟩ = some (.int .i64 x.idle) ∧ w.cell? ⟨B,j * 11 + 8,none⟩ = some (.int .i64 x.hard) ∧ w.cell? ⟨B,j * 11 + 9,none⟩ = some (.int .u64 x.ck) ∧ w.cell? ⟨B,j * 11 + 10,none⟩ = some (.bool x.tl):=by
 obtain ⟨av,ha,hc⟩:=h
 obtain ⟨A,n,cap,rfl,hn,r⟩:=id ha
 exact ⟨A,n,cap,hn,ha,hc 0 (by decide),hc 1 (by decide),hc 2 (by decide),hc 3 (by decide),hc 4 (by decide),hc 5 (by decide),hc 6 (by decide),hc 7 (by decide),hc 8 (by decide),hc 9 (by decide),hc 10 (by decide)⟩
theorem ysame_c (x y:EntV) {A B:Option Addr} {n m cap cap2:Nat} (w:World) (hx:ArgsAt w (.slice A n cap) x.args) (hy:ArgsAt w (.slice B m cap2) y.args) (hl:n < 1000000) {r:Bool} (hr:decide (x = y) = r) :
 Calls Tryz.prog 25 #[entV x (.slice A n cap),entV y (.slice B m cap2)] w fun e w' => e = .returned (.bool r) ∧ Wider w w':=by
 obtain ⟨hn,ra⟩:=hx.rowAt
 obtain ⟨hm,rb⟩:=hy.rowAt
 have sh:∀ (l:List Int),∀ z ∈ l.map (fun v => [Value.int .u64 v]),∃ v0:Int,z = [.int .u64 v0]:=fun l z hz => by
  obtain ⟨v,_,rfl⟩:=List.mem_map.1 hz
  exact ⟨v,rfl⟩
 refine rsameEntry_c w x.tb x.key x.oth x.ln x.pr x.bk x.idle x.hard x.ck x.tl y.tb y.key y.oth y.ln y.pr y.bk y.idle y.hard y.ck y.tl A B n cap m cap2 _ _ ra rb (by rw [List.length_map]; exact hn) (by rw [List.length_map]; exact hm) hl (sh _) (sh _) ?_
 subst hr
 have inj:∀ (l m:List Int),(l.map fun v => [Value.int .u64 v]) = (m.map fun v => [Value.int .u64 v]) → l = m:=fun l m e => by
  refine List.map_inj_right (f:=fun v => [Value.int .u64 v]) (fun a b q => by simpa using q) |>.1 e
 constructor
 · rintro ⟨e6,e0,e1,e2,e3,e4,e5,e7,e8,e9,e10⟩
   have e6:=inj _ _ e6
   refine decide_eq_true ?_
   cases x; cases y; simp_all
 · intro e
   obtain rfl:=of_decide_eq_true e
   exact ⟨rfl,rfl,rfl,rfl,rfl,rfl,rfl,rfl,rfl,rfl,rfl⟩
theorem laid3:laidOutB Tryz.prog = true:=by kernel_rfl
end Go.Proofs.YtbnpelciceblfaaGreat
