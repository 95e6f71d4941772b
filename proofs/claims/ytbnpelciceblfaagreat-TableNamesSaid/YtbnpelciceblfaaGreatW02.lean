/- URow Shape OSameH OSameEntry YEnt SOpen YActs EMath HMath -/
import Derived.Test.YtbnpelciceblfaaGreatW01
import Derived.Laws.CopyOwn
import Derived.Lib.AppendZerosOnto
import Derived.Deep.Frames
import Derived.StillTailTactics
namespace Go.Proofs.YtbnpelciceblfaaGreat
set_option linter.unusedVariables false
open Go.ChangeShapes Go.WideShapes Go.ChangeAt Go.RowKit Go.Joins
set_option maxHeartbeats 64000000
theorem Own.rowOpen {V w:World} {R:List Thing} {E:TypeId} {k n c:Nat} {A:Option Addr} {xs:List Value} (H:Own V w (rowT E k (.slice A n c) n xs :: R)) (hn:0 < n) :
 ∃ (g:Nat) (cur:List Value),A = some ⟨g,0,none⟩ ∧ n ≤ c ∧ c ≤ maxLen ∧ cur.length = c * k ∧ cur.take (n * k) = xs ∧ Own V w (blkT g cur.toArray E :: R):=by
 have h:=H.head
 rcases h.2 with ⟨q,q2⟩ | ⟨g,cap,cur,q,hb,hg,h1,h2,h3,h4⟩
 · injection q with q1 q2 q3; omega
 · injection q with q1 q2 q3
   subst q1 q3
   refine ⟨g,cur.toList,rfl,h1,h2,by simpa using h3,h4,?_⟩
   refine H.turn (s:=blkT g cur.toList.toArray E) (WBut.refl _ _) (by simpa using hg) (blk_stable _ _ _) fun i hi => ?_
   obtain rfl:i = g:=by simpa using hi
   exact ⟨.inl (by simp [Value.ownBlock]),(Array.getElem?_eq_some_iff.1 hg).1⟩
theorem Own.rowShut {V w:World} {R:List Thing} {E:TypeId} {k n c g:Nat} {cur xs:List Value} (H:Own V w (blkT g cur.toArray E :: R)) (h1:n ≤ c) (h2:c ≤ maxLen) (h3:cur.length = c * k) (h4:cur.take (n * k) = xs) :
 Own V w (rowT E k (.slice (some ⟨g,0,none⟩) n c) n xs :: R):=by
 have hg:=H.head
 refine H.turn (s:=rowT E k (.slice (some ⟨g,0,none⟩) n c) n xs) (WBut.refl _ _) ⟨?_,.inr ⟨g,c,cur.toArray,rfl,Nat.zero_le _,hg,h1,h2,by simpa using h3,by simpa using h4⟩⟩ (rowT_stable _ _ _ _ _) fun i hi => ?_
 · rw [← h4,List.length_take,h3]
   exact Nat.min_eq_left (Nat.mul_le_mul_right _ h1)
 · obtain rfl:i = g:=by simpa [Value.ownBlock] using hi
   exact ⟨.inl (by simp),(Array.getElem?_eq_some_iff.1 hg).1⟩
theorem Own.setRowU {V w:World} {R:List Thing} {B:Nat} {C:Array Value} {t:TypeId} (H:Own V w (blkT B C t :: R)) (C':Array Value):Own V (w.setRow B C') (blkT B C' t :: R):=by
 have hg:=H.head
 have l:(w.setRow B C').heap.size = w.heap.size:=by simp [World.setRow]
 refine H.turn ⟨rfl,rfl,Nat.le_of_eq l.symm,fun i hi hF => ?_⟩ (setRow_heap w B C C' t (0,0) hg) (blk_stable _ _ _) fun i hi => ⟨.inl hi,by rw [l]; exact (H.new _ (.head _) i hi).2⟩
 simp only [World.setRow,Array.getElem?_modify]
 rw [if_neg (fun e => hF (by rw [e]; simp))]
theorem run_copy_at {P:Program} (w:World) (dT sT ty elem:TypeId) (g o k dLen sLen m dCap sCap:Nat) (a:Addr) (cur:Array Value) (t:TypeId) (cs:List Value)
 (hu:P.underlying dT = some (.slice elem)) (hs:(P.info? elem).map (·.size) = some k) (hg:w.heap[g]? = some (.cells cur t (0,0))) (hm:Nat.min sLen dLen = m) (hn:cs.length = m * k)
 (hsrc:∀ j v,cs[j]? = some v → w.cell? (a.add j) = some v) (hfit:o + cs.length ≤ cur.size) (h1:∀ v ∈ cs,v.oneCell' = true) :
 (Builtin.copy_ #[dT,sT] ty #[.slice (some ⟨g,o,none⟩) dLen dCap,.slice (some a) sLen sCap]).run P w =
  .ok (goInt m) (w.setRow g (cur.toList.take o ++ cs ++ cur.toList.drop (o + cs.length)).toArray):=by
 have hl:=run_loadCells_list (P:=P) w a cs hsrc
 have hst:=run_storeCells_at P g o t cs 0 cur w hg (by simpa using hfit) h1
 cases hq:P.info? elem with
 | none => simp [hq] at hs
 | some i =>
   have hi:i.size = k:=by simpa [hq] using hs
   simp [Builtin.copy_,run_underlying hu,Builtin.lenOf,Builtin.firstCells,sizeOf,typeInfo,hq,hi,hm,← hn,hl,hst]
theorem run_clear_at {P:Program} (w:World) (t e ty:TypeId) (z:Value) (k:Nat) (ht:P.underlying t = some (.slice e)) (hv:(zeroValue e).run P w = .ok z w) (hz:z.cells.size = k) (h1:∀ v ∈ (Builtin.zeroCells z.cells 1).toList,v.oneCell' = true)
 (g o c:Nat) (cur:Array Value) (t':TypeId) (hg:w.heap[g]? = some (.cells cur t' (0,0))) (hfit:o + k ≤ cur.size) :
 (Builtin.clear_ #[t] ty #[.slice (some ⟨g,o,none⟩) 1 c]).run P w = .ok (.tuple #[]) (w.setRow g (cur.toList.take o ++ (Builtin.zeroCells z.cells 1).toList ++ cur.toList.drop (o + k)).toArray):=by
 have l:(Builtin.zeroCells z.cells 1).toList.length = k:=by rw [Array.length_toList,size_zeroCells,hz,Nat.one_mul]
 have hst:=run_storeCells_at P g o t' (Builtin.zeroCells z.cells 1).toList 0 cur w hg (by rw [l]; simpa using hfit) h1
 rw [l] at hst
 simp [Builtin.clear_,run_underlying ht,hv,hst]
theorem wpList_copy_u {P:Program} (w:World) {ops:Array Oper} {rest:List Oper} {o:Oper} {a:Act} {Q:Exit → Act → World → Prop} (hgd:o.guard = none) (d s:Operand) (t t':TypeId)
 (ho:o.op = .call { callee:=.builtin .copy,args:=#[d,s],argTypes:=#[t,t'] }) (v u:Value) (hd:a.eval d = v) (hs:a.eval s = u) {v':Value} {w':World}
 (hr:(Builtin.copy_ #[t,t'] o.type #[v,u]).run P w = .ok v' w') (h:wpList P ops Q rest (a.put o.dst v') w'):wpList P ops Q (o :: rest) a w:=by
 refine wpList_plain hgd fun K hK => ?_
 unfold Oper.wp execOp
 simp only [ho,resolve,invoke,builtin,Sem.run_bind,Sem.run_pure,Result.andThen_ok,List.map_toArray,List.map_cons,List.map_nil,hd,hs,hr]
 exact hK _ _ h
theorem wpList_append_u {P:Program} (w:World) {ops:Array Oper} {rest:List Oper} {o:Oper} {a:Act} {Q:Exit → Act → World → Prop} (hgd:o.guard = none) (d s:Operand) (t t':TypeId)
 (ho:o.op = .call { callee:=.builtin .append,args:=#[d,s],argTypes:=#[t,t'] }) (v u:Value) (hd:a.eval d = v) (hs:a.eval s = u) {v':Value} {w':World}
 (hr:(Builtin.append_ #[t,t'] o.type #[v,u]).run P w = .ok v' w') (h:wpList P ops Q rest (a.put o.dst v') w'):wpList P ops Q (o :: rest) a w:=by
 refine wpList_plain hgd fun K hK => ?_
 unfold Oper.wp execOp
 simp only [ho,resolve,invoke,builtin,Sem.run_bind,Sem.run_pure,Result.andThen_ok,List.map_toArray,List.map_cons,List.map_nil,hd,hs,hr]
 exact hK _ _ h
theorem wpList_clear_u {P:Program} (w:World) {ops:Array Oper} {rest:List Oper} {o:Oper} {a:Act} {Q:Exit → Act → World → Prop} (hgd:o.guard = none) (d:Operand) (t:TypeId)
 (ho:o.op = .call { callee:=.builtin .clear,args:=#[d],argTypes:=#[t] }) (v:Value) (hd:a.eval d = v) {v':Value} {w':World}
 (hr:(Builtin.clear_ #[t] o.type #[v]).run P w = .ok v' w') (h:wpList P ops Q rest (a.put o.dst v') w'):wpList P ops Q (o :: rest) a w:=by
 refine wpList_plain hgd fun K hK => ?_
 unfold Oper.wp execOp
 simp only [ho,resolve,invoke,builtin,Sem.run_bind,Sem.run_pure,Result.andThen_ok,List.map_toArray,List.map_cons,List.map_nil,hd,hr]
 exact hK _ _ h
theorem step_copy_u {P:Program} {w w':World} {ops:Array Oper} {o:Oper} {a:Act} {K:Act → World → Prop} {Q:Exit → Act → World → Prop} {E:Prop} (hgd:o.guard = none) (s x:Operand) (t u:TypeId)
 (ho:o.op = .call { callee:=.builtin .copy,args:=#[s,x],argTypes:=#[t,u] }) {vs vx v':Value} (hs:a.eval s = vs) (hx:a.eval x = vx)
 (hr:(Builtin.copy_ #[t,u] o.type #[vs,vx]).run P w = .ok v' w') (h:K (a.put o.dst v') w'):if Region.wanted o (yielded ops a.tmps) = true then Oper.wp P o a w K Q else E:=by
 have hw:Region.wanted o (yielded ops a.tmps) = true:=by simp [Region.wanted,hgd]
 rw [if_pos hw]
 unfold Oper.wp execOp
 simp only [ho,resolve,invoke,builtin,Sem.run_bind,Sem.run_pure,Result.andThen_ok,List.map_toArray,List.map_cons,List.map_nil,hs,hx,hr]
 exact h
theorem step_append_u {P:Program} {w w':World} {ops:Array Oper} {o:Oper} {a:Act} {K:Act → World → Prop} {Q:Exit → Act → World → Prop} {E:Prop} (hgd:o.guard = none) (s x:Operand) (t u:TypeId)
 (ho:o.op = .call { callee:=.builtin .append,args:=#[s,x],argTypes:=#[t,u] }) {vs vx v':Value} (hs:a.eval s = vs) (hx:a.eval x = vx)
 (hr:(Builtin.append_ #[t,u] o.type #[vs,vx]).run P w = .ok v' w') (h:K (a.put o.dst v') w'):if Region.wanted o (yielded ops a.tmps) = true then Oper.wp P o a w K Q else E:=by
 have hw:Region.wanted o (yielded ops a.tmps) = true:=by simp [Region.wanted,hgd]
 rw [if_pos hw]
 unfold Oper.wp execOp
 simp only [ho,resolve,invoke,builtin,Sem.run_bind,Sem.run_pure,Result.andThen_ok,List.map_toArray,List.map_cons,List.map_nil,hs,hx,hr]
 exact h
end Go.Proofs.YtbnpelciceblfaaGreat
namespace Go.Proofs.YtbnpelciceblfaaGreat
set_option linter.unusedVariables false
open Go.ChangeShapes Go.WideShapes Go.RowKit Go.Deep
set_option maxHeartbeats 64000000
inductive Sh where
 | int (k:IntKind)
 | bool
 | str
 | row (s:Sh)
 | tup (fs:List Sh)
mutual
def Sh.size:Sh → Nat
 | .int _ => 1
 | .bool => 1
 | .str => 1
 | .row _ => 1
 | .tup fs => Sh.sizes fs
def Sh.sizes:List Sh → Nat
 | [] => 0
 | s :: r => s.size + Sh.sizes r
end
structure RowAt (w:World) (A:Option Addr) (size:Nat) (l:List (List Value)):Prop where
 none_:A = none → l = []
 cell:∀ a,A = some a → ∀ j x,l[j]? = some x → x.length = size ∧ ∀ i v,x[i]? = some v → w.cell? ((a.add (j * size)).add i) = some v
theorem RowAt.on {W w:World} {A:Option Addr} {size:Nat} {l:List (List Value)} (h:RowAt W A size l) (g:Wider W w):RowAt w A size l :=
 ⟨h.none_,fun a e j x hx => ⟨(h.cell a e j x hx).1,fun i v hv => wkeep g ((h.cell a e j x hx).2 i v hv)⟩⟩
variable {H:Type} {enc:TypeId × Value → H} {P:Program} {w:World} {base:Nat}
end Go.Proofs.YtbnpelciceblfaaGreat
namespace Go.Proofs.YtbnpelciceblfaaGreat
set_option linter.unusedVariables false
open Go.ChangeShapes Go.WideShapes Go.ChangeAt Go.RowKit Go.Joins
open Go.ChangeMaps (open_string shut_string)
set_option maxHeartbeats 64000000
theorem row_cell {w:World} {a:Addr} {size:Nat} {l:List (List Value)} (h:RowAt w (some a) size l) {j:Nat} {x:List Value} (hx:l[j]? = some x):(∀ v,x[0]? = some v → w.cell? (a.add (j * size)) = some v) ∧ ∀ i v,x[i + 1]? = some v → w.cell? ⟨(a.add (j * size)).block,(a.add (j * size)).off + (i + 1),none⟩ = some v:=by
 have k:=(h.cell a rfl j x hx).2
 refine ⟨fun v hv => ?_,fun i v hv => ?_⟩
 · have q:=k 0 v hv
   rw [Addr.add_zero'] at q; exact q
 · have q:=k (i + 1) v hv
   rw [Addr.add_succ'] at q; exact q
theorem take_one {α:Type} {l k:List α} {j:Nat} {x:α} (h:l.take j = k.take j) (h1:l[j]? = some x) (h2:k[j]? = some x):l.take (j + 1) = k.take (j + 1):=by
 obtain ⟨a,e1⟩:=List.getElem?_eq_some_iff.1 h1
 obtain ⟨b,e2⟩:=List.getElem?_eq_some_iff.1 h2
 rw [List.take_succ_eq_append_getElem a,List.take_succ_eq_append_getElem b,h,e1,e2]
end Go.Proofs.YtbnpelciceblfaaGreat
namespace Go.Proofs.YtbnpelciceblfaaGreat
set_option linter.unusedVariables false
open Go.ChangeShapes Go.WideShapes Go.ChangeAt Go.RowKit Go.Joins
set_option maxHeartbeats 64000000
def u64s (l:List Int):List Value:=l.map fun v => Value.int .u64 v
theorem u64s_length (l:List Int):(u64s l).length = l.length:=by simp [u64s]
theorem u64s_one (l:List Int):∀ u ∈ u64s l,u.oneCell' = true:=by
 intro u hu
 obtain ⟨x,_,rfl⟩:=List.mem_map.1 hu
 rfl
def ArgsAt (w:World) (av:Value) (l:List Int):Prop:=∃ A n cap,av = .slice A n cap ∧ l.length = n ∧ (A = none → l = []) ∧ ∀ a,A = some a → ∀ (j:Nat) (v:Int),l[j]? = some v → w.cell? (a.add j) = some (.int .u64 v)
theorem ArgsAt.on {W w:World} {av:Value} {l:List Int} (h:ArgsAt W av l) (g:Wider W w):ArgsAt w av l:=by
 obtain ⟨A,n,cap,e,hn,h0,h1⟩:=h
 exact ⟨A,n,cap,e,hn,h0,fun a ea j v hj => wkeep g (h1 a ea j v hj)⟩
theorem ArgsAt.row {w:World} {E:TypeId} {v:Value} {n:Nat} {l:List Int} (h:w.ownsRow 0 E 1 v n (u64s l)) (hn:l.length = n):ArgsAt w v l:=by
 obtain ⟨A,cap,rfl⟩:=ownsRow_shape h
 refine ⟨A,n,cap,rfl,hn,?_,?_⟩
 · intro e
   subst e
   rcases h.2 with ⟨q,q2⟩ | ⟨g,c,cur,q,r⟩
   · exact List.eq_nil_of_length_eq_zero (hn.trans q2)
   · cases q
 · intro a e j v hj
   subst e
   rcases h.2 with ⟨q,q2⟩ | ⟨g,c,cur,q,r⟩
   · cases q
   · cases q
     exact h.cells (g:=g) rfl j _ (by unfold u64s; rw [List.getElem?_map,hj]; rfl)
abbrev entC (x:EntV) (av:Value):Array Value:=#[.int .i64 x.tb,.string x.key,.string x.oth,.int .i64 x.ln,.int .i64 x.pr,.int .i64 x.bk,av,.int .i64 x.idle,.int .i64 x.hard,.int .u64 x.ck,.bool x.tl]
abbrev entV (x:EntV) (av:Value):Value:=.agg (entC x av)
structure EntM where
 x:EntV
 av:Value
def EntAt (w:World) (B j:Nat) (x:EntV):Prop:=∃ av,ArgsAt w av x.args ∧ ∀ i,i < 11 → w.cell? ⟨B,j * 11 + i,none⟩ = (entC x av)[i]?
def EntsAt (w:World) (A:Option Addr) (L:List EntV):Prop:=∀ (j:Nat) (x:EntV),L[j]? = some x → ∃ B,A = some ⟨B,0,none⟩ ∧ EntAt w B j x
theorem EntAt.on {W w:World} {B j:Nat} {x:EntV} (h:EntAt W B j x) (g:Wider W w):EntAt w B j x:=by
 obtain ⟨av,ha,hc⟩:=h
 refine ⟨av,ha.on g,fun i hi => ?_⟩
 obtain ⟨v,hv⟩ : ∃ v,(entC x av)[i]? = some v:=⟨(entC x av)[i]'(show i < 11 from hi),Array.getElem?_eq_getElem _⟩
 rw [hv]
 exact wkeep g ((hc i hi).trans hv)
theorem EntsAt.on {W w:World} {A:Option Addr} {L:List EntV} (h:EntsAt W A L) (g:Wider W w):EntsAt w A L:=fun j x hj => by
 obtain ⟨B,e,k⟩:=h j x hj
 exact ⟨B,e,k.on g⟩
theorem EntAt.cells {w:World} {B j:Nat} {x:EntV} (h:EntAt w B j x):∃ A n cap,x.args.length = n ∧ ArgsAt w (.slice A n cap) x.args ∧ w.cell? ⟨B,j * 11,none⟩ = some (.int .i64 x.tb) ∧ w.cell? ⟨B,j * 11 + 1,none⟩ = some (.string x.key) ∧ w.cell? ⟨B,j * 11 + 2,none⟩ = some (.string x.oth) ∧ w.cell? ⟨B,j * 11 + 3,none⟩ = some (.int .i64 x.ln) ∧ w.cell? ⟨B,j * 11 + 4,none⟩ = some (.int .i64 x.pr) ∧ w.cell? ⟨B,j * 11 + 5,none⟩ = some (.int .i64 x.bk) ∧ w.cell? ⟨B,j * 11 + 6,none⟩ = some (.slice A n cap) ∧ w.cell? ⟨B,j * 11 + 7,none⟩ = some (.int .i64 x.idle) ∧ w.cell? ⟨B,j * 11 + 8,none⟩ = some (.int .i64 x.hard) ∧ w.cell? ⟨B,j * 11 + 9,none⟩ = some (.int .u64 x.ck) ∧ w.cell? ⟨B,j * 11 + 10,none⟩ = some (.bool x.tl):=by
 obtain ⟨av,ha,hc⟩:=h
 obtain ⟨A,n,cap,rfl,hn,r⟩:=id ha
 exact ⟨A,n,cap,hn,ha,hc 0 (by decide),hc 1 (by decide),hc 2 (by decide),hc 3 (by decide),hc 4 (by decide),hc 5 (by decide),hc 6 (by decide),hc 7 (by decide),hc 8 (by decide),hc 9 (by decide),hc 10 (by decide)⟩
end Go.Proofs.YtbnpelciceblfaaGreat
namespace Go.Proofs.YtbnpelciceblfaaGreat
set_option linter.unusedVariables false
open Go.ChangeShapes Go.WideShapes Go.ChangeAt Go.RowKit Go.Joins Go.Deep
set_option maxHeartbeats 64000000
structure EntV.Ok (x:EntV):Prop where
 key:x.key.size ≤ maxLen
 oth:x.oth.size ≤ maxLen
 args:x.args.length ≤ maxLen
 ln0:-9223372036854775808 ≤ x.ln
 ln1:x.ln ≤ 9223372036854775807
 pr0:-9223372036854775808 ≤ x.pr
 pr1:x.pr ≤ 9223372036854775807
 bk0:-9223372036854775808 ≤ x.bk
 bk1:x.bk ≤ 9223372036854775807
structure TabV where
 id:Int
 kind:Int
 keys:List Int
 cap:Int
 miss:Int
abbrev tabC (t:TabV) (kv:Value):Array Value:=#[.int .i64 t.id,.int .u8 t.kind,kv,.int .i64 t.cap,.int .i64 t.miss]
def NumsAt (w:World) (v:Value) (l:List Int):Prop:=∃ A n cap,v = .slice A n cap ∧ l.length = n ∧ (A = none → l = []) ∧ ∀ a,A = some a → ∀ (j:Nat) (z:Int),l[j]? = some z → w.cell? (a.add j) = some (.int .i64 z)
theorem NumsAt.on {W w:World} {v:Value} {l:List Int} (h:NumsAt W v l) (g:Wider W w):NumsAt w v l:=by
 obtain ⟨A,n,cap,e,hn,h0,h1⟩:=h
 exact ⟨A,n,cap,e,hn,h0,fun a ea j z hj => wkeep g (h1 a ea j z hj)⟩
structure ActT where
 what:Nat
 x:EntV
 av:Value
 now:Int
structure ActTAt (w:World) (a:Addr) (y:ActT):Prop where
 c0:w.cell? a = some (.int .u8 (y.what:Int))
 ce:∀ i v,(entC y.x y.av)[i]? = some v → w.cell? ((a.add 1).add i) = some v
 cn:w.cell? (a.add 12) = some (.int .i64 y.now)
 ar:ArgsAt w y.av y.x.args
structure ActT.Ok (y:ActT):Prop where
 k1:y.what < 256
 x:y.x.Ok
 n0:-9223372036854775808 ≤ y.now
 n1:y.now ≤ 9223372036854775807
theorem ActTAt.on {W w:World} {a:Addr} {y:ActT} (h:ActTAt W a y) (g:Wider W w):ActTAt w a y:=⟨wkeep g h.c0,fun i v hv => wkeep g (h.ce i v hv),wkeep g h.cn,h.ar.on g⟩
structure ActsTAt (w:World) (A:Option Addr) (l:List ActT):Prop where
 none_:A = none → l = []
 cell:∀ a,A = some a → ∀ j y,l[j]? = some y → ActTAt w (a.add (j * 13)) y
theorem ActsTAt.on {W w:World} {A:Option Addr} {l:List ActT} (h:ActsTAt W A l) (g:Wider W w):ActsTAt w A l:=⟨h.none_,fun a e j s hs => (h.cell a e j s hs).on g⟩
theorem addadd (a:Addr) (i j:Nat) (hi:0 < i):(a.add i).add j = a.add (i + j):=by
 unfold Addr.add
 by_cases c:j = 0
 · subst c; simp
 · rw [if_neg c,if_neg (by omega),if_neg (by omega)]
   simp [Nat.add_assoc]
end Go.Proofs.YtbnpelciceblfaaGreat
namespace Go.Proofs.YtbnpelciceblfaaGreat
set_option linter.unusedVariables false
namespace Tab
set_option maxHeartbeats 64000000
variable {K V:Type}
def D (n a b:Nat):Nat:=if a ≤ b then b - a else b + n - a
def P (n a j:Nat):Nat:=if a + j < n then a + j else a + j - n
theorem D_lt {n a b:Nat} (ha:a < n) (hb:b < n):D n a b < n:=by unfold D; split <;> omega
theorem P_lt {n a j:Nat} (ha:a < n) (hj:j ≤ n):P n a j < n:=by unfold P; split <;> omega
theorem D_P {n a j:Nat} (ha:a < n) (hj:j < n):D n a (P n a j) = j:=by unfold D P; split <;> split <;> omega
theorem P_D {n a b:Nat} (ha:a < n) (hb:b < n):P n a (D n a b) = b:=by unfold D P; split <;> split <;> omega
theorem D_inj {n a b c:Nat} (ha:a < n) (hb:b < n) (hc:c < n) (h:D n a b = D n a c):b = c:=by
 rw [← P_D ha hb,← P_D ha hc,h]
theorem D_self (n a:Nat):D n a a = 0:=by unfold D; simp
abbrev Slots (K V:Type):=List (Option (K × V))
def tk (L:Slots K V) (p:Nat):Option (K × V):=(L[p]?).getD none
theorem tk_set (L:Slots K V) (p q:Nat) (x:Option (K × V)):tk (L.set p x) q = if p = q ∧ p < L.length then x else tk L q:=by
 unfold tk
 rw [List.getElem?_set]
 by_cases c:p = q
 · subst c
   by_cases d:p < L.length
   · simp [d]
   · simp [d]
 · simp [c]
theorem tk_set_self {L:Slots K V} {p:Nat} {x:Option (K × V)} (h:p < L.length):tk (L.set p x) p = x:=by rw [tk_set,if_pos ⟨rfl,h⟩]
theorem tk_set_ne {L:Slots K V} {p q:Nat} {x:Option (K × V)} (h:p ≠ q):tk (L.set p x) q = tk L q:=by rw [tk_set,if_neg (fun c => h c.1)]
theorem tk_replicate (n p:Nat):tk (List.replicate n none:Slots K V) p = none:=by
 unfold tk
 rw [List.getElem?_replicate]
 split <;> rfl
theorem tk_lt {L:Slots K V} {p:Nat} {x:K × V} (h:tk L p = some x):p < L.length:=by
 apply Decidable.byContradiction
 intro c
 unfold tk at h
 rw [List.getElem?_eq_none (by omega)] at h
 cases h
variable (H:K → Nat → Nat)
structure IsLook (L:Slots K V) (k:K) (p:Nat):Prop where
 lt:p < L.length
 here_:tk L p = none ∨ ∃ v,tk L p = some (k,v)
 path:∀ q,q < L.length → D L.length (H k L.length) q < D L.length (H k L.length) p → ∃ k2 v2,tk L q = some (k2,v2) ∧ k2 ≠ k
def Inv (L:Slots K V):Prop:=∀ p k v,tk L p = some (k,v) → IsLook H L k p
variable {H}
abbrev Home (H:K → Nat → Nat):Prop:=∀ k n,0 < n → H k n < n
theorem IsLook.unique (hH:Home H) {L:Slots K V} {k:K} {p q:Nat} (h:IsLook H L k p) (g:IsLook H L k q):p = q:=by
 have hn:0 < L.length:=Nat.lt_of_le_of_lt (Nat.zero_le _) h.lt
 have h0:=hH k L.length hn
 rcases Nat.lt_trichotomy (D L.length (H k L.length) p) (D L.length (H k L.length) q) with c | c | c
 · obtain ⟨k2,v2,e,ne⟩:=g.path p h.lt c
   rcases h.here_ with e2 | ⟨v,e2⟩
   · rw [e] at e2; cases e2
   · rw [e] at e2; simp only [Option.some.injEq,Prod.mk.injEq] at e2; exact absurd e2.1 ne
 · exact D_inj h0 h.lt g.lt c
 · obtain ⟨k2,v2,e,ne⟩:=h.path q g.lt c
   rcases g.here_ with e2 | ⟨v,e2⟩
   · rw [e] at e2; cases e2
   · rw [e] at e2; simp only [Option.some.injEq,Prod.mk.injEq] at e2; exact absurd e2.1 ne
theorem look_exists (hH:Home H) {L:Slots K V} (k:K) {f:Nat} (hf:f < L.length) (he:tk L f = none):∃ p,IsLook H L k p:=by
 have hn:0 < L.length:=Nat.lt_of_le_of_lt (Nat.zero_le _) hf
 have h0:=hH k L.length hn
 have ex:∃ j,j < L.length ∧ (tk L (P L.length (H k L.length) j) = none ∨ ∃ v,tk L (P L.length (H k L.length) j) = some (k,v)) :=
  ⟨D L.length (H k L.length) f,D_lt h0 hf,.inl (by rw [P_D h0 hf]; exact he)⟩
 have least:∀ (p:Nat → Prop),(∃ j,p j) → ∃ j,p j ∧ ∀ i,i < j → ¬ p i:=by
  intro p ⟨j,hj⟩
  induction j using Nat.strongRecOn with
  | _ j ih =>
    by_cases c:∃ i,i < j ∧ p i
    · obtain ⟨i,hi,hp⟩:=c; exact ih i hi hp
    · exact ⟨j,hj,fun i hi hp => c ⟨i,hi,hp⟩⟩
 obtain ⟨j,⟨hj,hs⟩,hm⟩:=least _ ex
 refine ⟨P L.length (H k L.length) j,P_lt h0 (by omega),hs,fun q hq hd => ?_⟩
 rw [D_P h0 hj] at hd
 have hq2:=hm _ hd
 rw [P_D h0 hq] at hq2
 cases e:tk L q with
 | none => exact absurd ⟨Nat.lt_trans hd hj,.inl e⟩ hq2
 | some x =>
   obtain ⟨k2,v2⟩:=x
   refine ⟨k2,v2,rfl,fun c => ?_⟩
   subst c
   exact hq2 ⟨Nat.lt_trans hd hj,.inr ⟨v2,e⟩⟩
theorem Inv.key (hH:Home H) {L:Slots K V} (h:Inv H L) {p q:Nat} {k:K} {v u:V} (h1:tk L p = some (k,v)) (h2:tk L q = some (k,u)):p = q :=
 IsLook.unique hH (h p k v h1) (h q k u h2)
theorem Inv.found (hH:Home H) {L:Slots K V} (h:Inv H L) {k:K} {p:Nat} (l:IsLook H L k p):(tk L p = none ↔ ∀ q v,tk L q ≠ some (k,v)):=by
 constructor
 · intro e q v e2
   have:=IsLook.unique hH l (h q k v e2)
   subst this
   rw [e] at e2; cases e2
 · intro g
   rcases l.here_ with e | ⟨v,e⟩
   · exact e
   · exact absurd e (g p v)
theorem Inv.put {L:Slots K V} (h:Inv H L) {k:K} {p:Nat} (l:IsLook H L k p) (e:tk L p = none) (v:V):Inv H (L.set p (some (k,v))):=by
 intro q k2 v2 hq
 have hql:q < L.length:=by have:=tk_lt hq; rwa [List.length_set] at this
 by_cases c:p = q
 · subst c
   rw [tk_set_self l.lt] at hq
   simp only [Option.some.injEq,Prod.mk.injEq] at hq
   obtain ⟨rfl,rfl⟩:=hq
   refine ⟨by rw [List.length_set]; exact l.lt,.inr ⟨v,tk_set_self l.lt⟩,fun r hr hd => ?_⟩
   rw [List.length_set] at hr hd
   have ne:p ≠ r:=fun c => by subst c; omega
   rw [tk_set_ne ne]
   exact l.path r hr hd
 · rw [tk_set_ne c] at hq
   have g:=h q k2 v2 hq
   refine ⟨by rw [List.length_set]; exact hql,.inr ⟨v2,by rw [tk_set_ne c]; exact hq⟩,fun r hr hd => ?_⟩
   rw [List.length_set] at hr hd
   by_cases d:p = r
   · subst d
     obtain ⟨k3,v3,e3,_⟩:=g.path p hr hd
     rw [e] at e3; cases e3
   · rw [tk_set_ne d]; exact g.path r hr hd
theorem Inv.again {L:Slots K V} (h:Inv H L) {k:K} {p:Nat} {u:V} (e:tk L p = some (k,u)) (v:V):Inv H (L.set p (some (k,v))):=by
 have hl:=tk_lt e
 intro q k2 v2 hq
 have g:IsLook H L k2 q:=by
  by_cases c:p = q
  · subst c
    rw [tk_set_self hl] at hq
    simp only [Option.some.injEq,Prod.mk.injEq] at hq
    obtain ⟨rfl,rfl⟩:=hq
    exact h p k u e
  · rw [tk_set_ne c] at hq; exact h q k2 v2 hq
 refine ⟨by rw [List.length_set]; exact g.lt,.inr ⟨v2,hq⟩,fun r hr hd => ?_⟩
 rw [List.length_set] at hr hd
 obtain ⟨k3,v3,e3,ne⟩:=g.path r hr hd
 by_cases d:p = r
 · subst d
   rw [e] at e3
   simp only [Option.some.injEq,Prod.mk.injEq] at e3
   obtain ⟨rfl,rfl⟩:=e3
   exact ⟨k,v,tk_set_self hl,ne⟩
 · exact ⟨k3,v3,by rw [tk_set_ne d]; exact e3,ne⟩
theorem Inv.empty (n:Nat):Inv H (List.replicate n none:Slots K V):=fun p k v h => by rw [tk_replicate] at h; cases h
def nx (n a:Nat):Nat:=if a + 1 < n then a + 1 else 0
def shut (H:K → Nat → Nat):Nat → Slots K V → Nat → Nat → Slots K V
 | 0,L,_,_ => L
 | m + 1,L,f,a => match tk L a with
   | none => L
   | some (k,v) => if D L.length (H k L.length) f < D L.length (H k L.length) a then shut H m ((L.set f (some (k,v))).set a none) a (nx L.length a) else shut H m L f (nx L.length a)
structure Hole (H:K → Nat → Nat) (L:Slots K V) (f a:Nat):Prop where
 fl:f < L.length
 al:a < L.length
 ne:f ≠ a
 free:tk L f = none
 path:∀ p k v,tk L p = some (k,v) → ∀ q,q < L.length → D L.length (H k L.length) q < D L.length (H k L.length) p → q ≠ f → ∃ k2 v2,tk L q = some (k2,v2) ∧ k2 ≠ k
 over:∀ p k v,tk L p = some (k,v) → D L.length (H k L.length) f < D L.length (H k L.length) p → D L.length f a ≤ D L.length f p
 mid:∀ q,q < L.length → 0 < D L.length f q → D L.length f q < D L.length f a → tk L q ≠ none
theorem Hole.key (hH:Home H) {L:Slots K V} {f a:Nat} (h:Hole H L f a) {p q:Nat} {k:K} {v u:V} (h1:tk L p = some (k,v)) (h2:tk L q = some (k,u)):p = q:=by
 have hp:=tk_lt h1
 have hq:=tk_lt h2
 have h0:=hH k L.length (Nat.lt_of_le_of_lt (Nat.zero_le _) hp)
 have np:p ≠ f:=fun c => by subst c; rw [h.free] at h1; cases h1
 have nq:q ≠ f:=fun c => by subst c; rw [h.free] at h2; cases h2
 rcases Nat.lt_trichotomy (D L.length (H k L.length) p) (D L.length (H k L.length) q) with c | c | c
 · obtain ⟨k2,v2,e,ne⟩:=h.path q k u h2 p hp c np
   rw [h1] at e
   simp only [Option.some.injEq,Prod.mk.injEq] at e
   exact absurd e.1.symm ne
 · exact D_inj h0 hp hq c
 · obtain ⟨k2,v2,e,ne⟩:=h.path p k v h1 q hq c nq
   rw [h2] at e
   simp only [Option.some.injEq,Prod.mk.injEq] at e
   exact absurd e.1.symm ne
theorem Hole.end_ (hH:Home H) {L:Slots K V} {f a:Nat} (h:Hole H L f a) (e:tk L a = none):Inv H L:=by
 intro p k v hp
 have hpl:=tk_lt hp
 have h0:=hH k L.length (Nat.lt_of_le_of_lt (Nat.zero_le _) hpl)
 refine ⟨hpl,.inr ⟨v,hp⟩,fun q hq hd => ?_⟩
 by_cases c:q = f
 · subst c
   have g:=h.over p k v hp hd
   have npa:p ≠ a:=fun c => by subst c; rw [e] at hp; cases hp
   have lt:D L.length (H k L.length) a < D L.length (H k L.length) p:=by
    have:=h.al; have:=h.fl
    unfold D at *
    split at * <;> split at * <;> split at * <;> split at * <;> split at * <;> omega
   obtain ⟨k2,v2,e2,_⟩:=h.path p k v hp a h.al lt (Ne.symm h.ne)
   rw [e] at e2; cases e2
 · exact h.path p k v hp q hq hd c
theorem nx_lt {n a:Nat} (ha:a < n):nx n a < n:=by unfold nx; split <;> omega
theorem D_nx {n f a:Nat} (hf:f < n) (ha:a < n) (h:D n f a + 1 < n):D n f (nx n a) = D n f a + 1:=by
 unfold D nx at *
 split at h <;> split <;> split <;> omega
theorem D_nx_self {n a:Nat} (ha:a < n) (h:1 < n):D n a (nx n a) = 1:=by
 unfold D nx
 split <;> split <;> omega
theorem D_pos {n f a:Nat} (hf:f < n) (ha:a < n) (h:f ≠ a):0 < D n f a:=by unfold D; split <;> omega
theorem D_way {n f a e:Nat} (hf:f < n) (ha:a < n) (he:e < n) (h:D n f a ≤ D n f e):D n f e = D n f a + D n a e:=by
 unfold D at *
 split at h <;> split at h <;> split <;> split <;> (try split) <;> omega
theorem Hole.stay {L:Slots K V} {f a e:Nat} (h:Hole H L f a) {k:K} {v:V} (ha:tk L a = some (k,v)) (he:e < L.length) (hn:tk L e = none) (hfe:e ≠ f) (hw:D L.length f a ≤ D L.length f e)
 (c:¬ D L.length (H k L.length) f < D L.length (H k L.length) a):Hole H L f (nx L.length a) ∧ D L.length f (nx L.length a) ≤ D L.length f e:=by
 have nea:e ≠ a:=fun x => by subst x; rw [hn] at ha; cases ha
 have lt:D L.length f a < D L.length f e:=by
  rcases Nat.lt_or_eq_of_le hw with x | x
  · exact x
  · exact absurd (D_inj h.fl h.al he x).symm nea
 have hm:=D_lt h.fl he
 have e1:=D_nx h.fl h.al (by omega)
 have nf:f ≠ nx L.length a:=fun x => by rw [← x,D_self] at e1; omega
 refine ⟨⟨h.fl,nx_lt h.al,nf,h.free,h.path,fun p k2 v2 hp hd => ?_,fun q hq h1 h2 => ?_⟩,by omega⟩
 · have g:=h.over p k2 v2 hp hd
   rw [e1]
   rcases Nat.lt_or_eq_of_le g with x | x
   · exact x
   · have:=D_inj h.fl h.al (tk_lt hp) x
     subst this
     rw [ha] at hp
     simp only [Option.some.injEq,Prod.mk.injEq] at hp
     obtain ⟨rfl,rfl⟩:=hp
     exact absurd hd c
 · rw [e1] at h2
   rcases Nat.lt_or_eq_of_le (Nat.le_of_lt_succ h2) with x | x
   · exact h.mid q hq h1 x
   · have:=D_inj h.fl hq h.al x
     subst this
     rw [ha]; exact fun y => by cases y
theorem Hole.move (hH:Home H) {L:Slots K V} {f a e:Nat} (h:Hole H L f a) {k:K} {v:V} (ha:tk L a = some (k,v)) (he:e < L.length) (hn:tk L e = none) (hfe:e ≠ f)
 (c:D L.length (H k L.length) f < D L.length (H k L.length) a):Hole H ((L.set f (some (k,v))).set a none) a (nx L.length a):=by
 have h0:=hH k L.length (Nat.lt_of_le_of_lt (Nat.zero_le _) h.al)
 have fl:=h.fl
 have al:=h.al
 have one:1 < L.length:=by have:=h.ne; omega
 have s:((L.set f (some (k,v))).set a none).length = L.length:=by simp
 have al2:a < (L.set f (some (k,v))).length:=by simpa using al
 have ta:tk ((L.set f (some (k,v))).set a none) a = none:=tk_set_self al2
 have tf:tk ((L.set f (some (k,v))).set a none) f = some (k,v):=by rw [tk_set_ne (Ne.symm h.ne),tk_set_self fl]
 have oo:∀ q,q ≠ f → q ≠ a → tk ((L.set f (some (k,v))).set a none) q = tk L q:=fun q h1 h2 => by rw [tk_set_ne (Ne.symm h2),tk_set_ne (Ne.symm h1)]
 refine ⟨by rw [s]; exact al,by rw [s]; exact nx_lt al,fun x => ?_,ta,fun p k2 v2 hp q hq hd nq => ?_,fun p k2 v2 hp hd => ?_,fun q hq h1 h2 => ?_⟩
 · have:=D_nx_self al one
   rw [← x,D_self] at this
   omega
 · rw [s] at hq hd
   by_cases pa:p = a
   · subst pa; rw [ta] at hp; cases hp
   by_cases pf:p = f
   · subst pf
     rw [tf] at hp
     simp only [Option.some.injEq,Prod.mk.injEq] at hp
     obtain ⟨rfl,rfl⟩:=hp
     have nqf:q ≠ p:=fun x => by subst x; omega
     rw [oo q nqf nq]
     exact h.path a k v ha q hq (by omega) nqf
   · rw [oo p pf pa] at hp
     by_cases qf:q = f
     · subst qf
       refine ⟨k,v,tf,fun x => ?_⟩
       subst x
       exact pa (h.key hH hp ha)
     · rw [oo q qf nq]
       exact h.path p k2 v2 hp q hq hd qf
 · rw [s] at hd ⊢
   rw [D_nx_self al one]
   have pl:=tk_lt hp
   rw [s] at pl
   by_cases pa:p = a
   · subst pa; rw [ta] at hp; cases hp
   · exact D_pos al pl (Ne.symm pa)
 · rw [s] at hq h1 h2
   rw [D_nx_self al one] at h2
   omega
theorem Inv.hole (hH:Home H) {L:Slots K V} (h:Inv H L) {p:Nat} {k:K} {v:V} (hp:tk L p = some (k,v)) (one:1 < L.length):Hole H (L.set p none) p (nx L.length p):=by
 have pl:=tk_lt hp
 have e1:=D_nx_self pl one
 have oo:∀ q x,tk (L.set p none) q = some x → q ≠ p ∧ tk L q = some x:=fun q x hq => by
  by_cases c:p = q
  · subst c; rw [tk_set_self pl] at hq; cases hq
  · rw [tk_set_ne c] at hq; exact ⟨Ne.symm c,hq⟩
 refine ⟨by rw [List.length_set]; exact pl,by rw [List.length_set]; exact nx_lt pl,fun x => ?_,tk_set_self pl,fun q k2 v2 hq r hr hd nr => ?_,fun q k2 v2 hq hd => ?_,fun q hq h1 h2 => ?_⟩
 · rw [← x,D_self] at e1; omega
 · rw [List.length_set] at hr hd
   obtain ⟨nq,hq⟩:=oo q _ hq
   obtain ⟨k3,v3,e3,n3⟩:=(h q k2 v2 hq).path r hr hd
   exact ⟨k3,v3,by rw [tk_set_ne (Ne.symm nr)]; exact e3,n3⟩
 · rw [List.length_set] at hd ⊢
   obtain ⟨nq,hq⟩:=oo q _ hq
   rw [e1]
   exact D_pos pl (tk_lt hq) (Ne.symm nq)
 · rw [List.length_set] at hq h1 h2
   rw [e1] at h2
   omega
def Has (L:Slots K V) (k:K) (v:V):Prop:=∃ p,tk L p = some (k,v)
theorem shut_length (H:K → Nat → Nat):∀ (m:Nat) (L:Slots K V) (f a:Nat),(shut H m L f a).length = L.length
 | 0,_,_,_ => rfl
 | m + 1,L,f,a => by
   unfold shut
   split
   · rfl
   · split
     · rw [shut_length H m]; simp
     · exact shut_length H m L _ _
theorem shut_inv (hH:Home H):∀ (m:Nat) (L:Slots K V) (f a e:Nat),Hole H L f a → e < L.length → tk L e = none → e ≠ f → D L.length f a ≤ D L.length f e → D L.length a e < m →
 Inv H (shut H m L f a) ∧ ∀ k v,Has (shut H m L f a) k v ↔ Has L k v
 | 0,_,_,_,_,_,_,_,_,_,hm => absurd hm (Nat.not_lt_zero _)
 | m + 1,L,f,a,e,h,he,hn,hfe,hw,hm => by
   unfold shut
   split
   · rename_i c
     exact ⟨h.end_ hH c,fun _ _ => Iff.rfl⟩
   · rename_i k v ha
     have nea:e ≠ a:=fun x => by subst x; rw [hn] at ha; cases ha
     have dae:=D_pos h.al he (Ne.symm nea)
     have de:=D_lt h.al he
     have d1:D L.length (nx L.length a) e < m:=by
      have q:=D_way h.al (nx_lt h.al) he (by rw [D_nx_self h.al (by omega)]; omega)
      rw [D_nx_self h.al (by omega)] at q
      omega
     split
     · rename_i c
       have s:((L.set f (some (k,v))).set a none).length = L.length:=by simp
       have g:=h.move hH ha he hn hfe c
       have al2:a < (L.set f (some (k,v))).length:=by simpa using h.al
       obtain ⟨r1,r2⟩:=shut_inv hH m ((L.set f (some (k,v))).set a none) a (nx L.length a) e g (by rw [s]; exact he) (by rw [tk_set_ne (Ne.symm nea),tk_set_ne (Ne.symm hfe)]; exact hn) nea (by rw [s,D_nx_self h.al (by omega)]; omega) (by rw [s]; exact d1)
       refine ⟨r1,fun k2 v2 => (r2 k2 v2).trans ?_⟩
       constructor
       · rintro ⟨p,hp⟩
         by_cases pa:a = p
         · subst pa; rw [tk_set_self al2] at hp; cases hp
         rw [tk_set_ne pa] at hp
         by_cases pf:f = p
         · subst pf; rw [tk_set_self h.fl] at hp; exact ⟨a,by rw [ha,hp]⟩
         · rw [tk_set_ne pf] at hp; exact ⟨p,hp⟩
       · rintro ⟨p,hp⟩
         by_cases pa:a = p
         · subst pa; rw [ha] at hp; exact ⟨f,by rw [tk_set_ne (Ne.symm h.ne),tk_set_self h.fl]; exact hp⟩
         · have pf:f ≠ p:=fun x => by subst x; rw [h.free] at hp; cases hp
           exact ⟨p,by rw [tk_set_ne pa,tk_set_ne pf]; exact hp⟩
     · rename_i c
       obtain ⟨g,g2⟩:=h.stay ha he hn hfe hw c
       exact shut_inv hH m L f (nx L.length a) e g he hn hfe g2 d1
theorem del_inv (hH:Home H) {L:Slots K V} (h:Inv H L) {p e:Nat} {k:K} {v:V} (hp:tk L p = some (k,v)) (he:e < L.length) (hn:tk L e = none) {m:Nat} (hm:L.length ≤ m) :
 Inv H (shut H m (L.set p none) p (nx L.length p)) ∧ ∀ k2 v2,Has (shut H m (L.set p none) p (nx L.length p)) k2 v2 ↔ Has L k2 v2 ∧ k2 ≠ k:=by
 have pl:=tk_lt hp
 have nep:e ≠ p:=fun x => by subst x; rw [hn] at hp; cases hp
 have one:1 < L.length:=by omega
 have s:(L.set p none).length = L.length:=by simp
 obtain ⟨r1,r2⟩:=shut_inv hH m (L.set p none) p (nx L.length p) e (h.hole hH hp one) (by rw [s]; exact he) (by rw [tk_set_ne (Ne.symm nep)]; exact hn) nep (by rw [s,D_nx_self pl one]; exact D_pos pl he (Ne.symm nep)) (by rw [s]; exact Nat.lt_of_lt_of_le (D_lt (nx_lt pl) he) hm)
 refine ⟨r1,fun k2 v2 => (r2 k2 v2).trans ?_⟩
 constructor
 · rintro ⟨q,hq⟩
   by_cases c:p = q
   · subst c; rw [tk_set_self pl] at hq; cases hq
   · rw [tk_set_ne c] at hq
     refine ⟨⟨q,hq⟩,fun x => ?_⟩
     subst x
     exact c (h.key hH hp hq)
 · rintro ⟨⟨q,hq⟩,ne⟩
   have c:p ≠ q:=fun x => by
    subst x
    rw [hp] at hq
    simp only [Option.some.injEq,Prod.mk.injEq] at hq
    exact ne hq.1.symm
   exact ⟨q,by rw [tk_set_ne c]; exact hq⟩
def cnt:Slots K V → Nat
 | [] => 0
 | none :: L => cnt L
 | some _ :: L => cnt L + 1
theorem cnt_le:∀ (L:Slots K V),cnt L ≤ L.length
 | [] => Nat.le_refl _
 | none :: L => by have:=cnt_le L; simp only [cnt,List.length_cons]; omega
 | some _ :: L => by have:=cnt_le L; simp only [cnt,List.length_cons]; omega
theorem tk_cons_zero (x:Option (K × V)) (L:Slots K V):tk (x :: L) 0 = x:=rfl
theorem tk_cons_succ (x:Option (K × V)) (L:Slots K V) (p:Nat):tk (x :: L) (p + 1) = tk L p:=rfl
def one (x:Option (K × V)):Nat:=match x with
 | none => 0
 | some _ => 1
theorem cnt_cons (x:Option (K × V)) (L:Slots K V):cnt (x :: L) = cnt L + one x:=by cases x <;> rfl
theorem cnt_set:∀ (L:Slots K V) (p:Nat) (x:Option (K × V)),p < L.length → cnt (L.set p x) + one (tk L p) = cnt L + one x
 | [],p,x,h => absurd h (Nat.not_lt_zero _)
 | y :: L,0,x,h => by rw [List.set_cons_zero,cnt_cons,cnt_cons,tk_cons_zero]; omega
 | y :: L,p + 1,x,h => by
   have:=cnt_set L p x (by simpa using h)
   rw [List.set_cons_succ,cnt_cons,cnt_cons,tk_cons_succ]
   omega
theorem cnt_free:∀ (L:Slots K V),cnt L < L.length → ∃ f,f < L.length ∧ tk L f = none
 | [],h => absurd h (Nat.not_lt_zero _)
 | none :: L,_ => ⟨0,by simp,rfl⟩
 | some _ :: L,h => by
   obtain ⟨f,hf,e⟩:=cnt_free L (by simp only [cnt,List.length_cons] at h; omega)
   exact ⟨f + 1,by simpa using hf,e⟩
theorem cnt_replicate (n:Nat):cnt (List.replicate n none:Slots K V) = 0:=by
 induction n with
 | zero => rfl
 | succ n ih => rw [List.replicate_succ]; exact ih
theorem shut_cnt (H:K → Nat → Nat):∀ (m:Nat) (L:Slots K V) (f a:Nat),f < L.length → tk L f = none → cnt (shut H m L f a) = cnt L
 | 0,_,_,_,_,_ => rfl
 | m + 1,L,f,a,hf,he => by
   unfold shut
   split
   · rfl
   · rename_i k v ha
     have al:=tk_lt ha
     split
     · have ne:f ≠ a:=fun c => by subst c; rw [he] at ha; cases ha
       have al2:a < (L.set f (some (k,v))).length:=by simpa using al
       rw [shut_cnt H m _ a _ (by simpa using al) (tk_set_self al2)]
       have q1:=cnt_set L f (some (k,v)) hf
       have q2:=cnt_set (L.set f (some (k,v))) a none al2
       rw [he] at q1
       rw [tk_set_ne ne,ha] at q2
       simp only [one] at q1 q2
       omega
     · exact shut_cnt H m L f _ hf he
inductive Moved (H:K → Nat → Nat):Slots K V → Slots K V → Slots K V → Prop
 | nil (M:Slots K V):Moved H [] M M
 | free {l M N:Slots K V} : Moved H l M N → Moved H (none :: l) M N
 | put {l M N:Slots K V} {k:K} {v:V} {p:Nat} : IsLook H M k p → Moved H l (M.set p (some (k,v))) N → Moved H (some (k,v) :: l) M N
theorem Moved.snoc_free {H:K → Nat → Nat} {l M N:Slots K V} (h:Moved H l M N):Moved H (l ++ [none]) M N:=by
 induction h with
 | nil M => exact .free (.nil M)
 | free _ ih => exact .free ih
 | put hl _ ih => exact .put hl ih
theorem Moved.snoc {H:K → Nat → Nat} {l M N:Slots K V} (h:Moved H l M N) {k:K} {v:V} {p:Nat} (g:IsLook H N k p):Moved H (l ++ [some (k,v)]) M (N.set p (some (k,v))):=by
 induction h with
 | nil M => exact .put g (.nil _)
 | free _ ih => exact .free (ih g)
 | put hl _ ih => exact .put hl (ih g)
theorem Moved.length {H:K → Nat → Nat} {l M N:Slots K V} (h:Moved H l M N):N.length = M.length:=by
 induction h with
 | nil M => rfl
 | free _ ih => exact ih
 | put hl _ ih => rw [ih,List.length_set]
theorem Moved.inv (hH:Home H) {l M N:Slots K V} (h:Moved H l M N):Inv H M → (∀ i j k v u,tk l i = some (k,v) → tk l j = some (k,u) → i = j) → (∀ i k v u,tk l i = some (k,v) → ¬ Has M k u) →
 Inv H N ∧ cnt N = cnt M + cnt l ∧ ∀ k v,Has N k v ↔ Has M k v ∨ Has l k v:=by
 induction h with
 | nil M => exact fun h _ _ => ⟨h,rfl,fun k v => ⟨.inl,fun x => x.elim id (fun ⟨p,hp⟩ => by simp [tk] at hp)⟩⟩
 | @free l M N _ ih =>
   intro h1 h2 h3
   obtain ⟨r1,r2,r3⟩:=ih h1 (fun i j k v u e1 e2 => by have:=h2 (i + 1) (j + 1) k v u e1 e2; omega) (fun i k v u e => h3 (i + 1) k v u e)
   refine ⟨r1,r2,fun k v => (r3 k v).trans (or_congr_right ?_)⟩
   constructor
   · rintro ⟨p,hp⟩; exact ⟨p + 1,hp⟩
   · rintro ⟨p,hp⟩
     cases p with
     | zero => cases hp
     | succ p => exact ⟨p,hp⟩
 | @put l M N k v p hl _ ih =>
   intro h1 h2 h3
   have e:tk M p = none:=by
    rcases hl.here_ with e | ⟨u,e⟩
    · exact e
    · exact absurd ⟨p,e⟩ (h3 0 k v u rfl)
   have hasP:∀ k2 v2,Has (M.set p (some (k,v))) k2 v2 ↔ Has M k2 v2 ∨ (k2 = k ∧ v2 = v):=by
    intro k2 v2
    constructor
    · rintro ⟨q,hq⟩
      by_cases c:p = q
      · subst c
        rw [tk_set_self hl.lt] at hq
        simp only [Option.some.injEq,Prod.mk.injEq] at hq
        exact .inr ⟨hq.1.symm,hq.2.symm⟩
      · rw [tk_set_ne c] at hq; exact .inl ⟨q,hq⟩
    · rintro (⟨q,hq⟩ | ⟨rfl,rfl⟩)
      · have c:p ≠ q:=fun x => by subst x; rw [e] at hq; cases hq
        exact ⟨q,by rw [tk_set_ne c]; exact hq⟩
      · exact ⟨p,tk_set_self hl.lt⟩
   obtain ⟨r1,r2,r3⟩:=ih (h1.put hl e v) (fun i j k v u e1 e2 => by have:=h2 (i + 1) (j + 1) k v u e1 e2; omega) (fun i k2 v2 u e2 => by
    rw [hasP]
    rintro (x | ⟨rfl,rfl⟩)
    · exact h3 (i + 1) k2 v2 u e2 x
    · have:=h2 0 (i + 1) k2 u v2 rfl e2
      omega)
   have q:=cnt_set M p (some (k,v)) hl.lt
   rw [e] at q
   simp only [one] at q
   refine ⟨r1,by rw [r2]; simp only [cnt]; omega,fun k2 v2 => (r3 k2 v2).trans ?_⟩
   rw [hasP]
   constructor
   · rintro ((x | ⟨rfl,rfl⟩) | ⟨q,hq⟩)
     · exact .inl x
     · exact .inr ⟨0,rfl⟩
     · exact .inr ⟨q + 1,hq⟩
   · rintro (x | ⟨q,hq⟩)
     · exact .inl (.inl x)
     · cases q with
       | zero =>
         rw [tk_cons_zero] at hq
         simp only [Option.some.injEq,Prod.mk.injEq] at hq
         exact .inl (.inr ⟨hq.1.symm,hq.2.symm⟩)
       | succ q => exact .inr ⟨q,hq⟩
theorem grow_inv (hH:Home H) {L N:Slots K V} (h:Inv H L) (m:Moved H L (List.replicate (2 * L.length) none) N):Inv H N ∧ N.length = 2 * L.length ∧ cnt N = cnt L ∧ ∀ k v,Has N k v ↔ Has L k v:=by
 obtain ⟨r1,r2,r3⟩:=m.inv hH (Inv.empty _) (fun i j k v u e1 e2 => h.key hH e1 e2) (fun i k v u _ ⟨p,hp⟩ => by rw [tk_replicate] at hp; cases hp)
 refine ⟨r1,by rw [m.length,List.length_replicate],by rw [r2,cnt_replicate]; omega,fun k v => (r3 k v).trans ?_⟩
 constructor
 · rintro (⟨p,hp⟩ | x)
   · rw [tk_replicate] at hp; cases hp
   · exact x
 · exact .inr
end Tab
end Go.Proofs.YtbnpelciceblfaaGreat
namespace Go.Proofs.YtbnpelciceblfaaGreat
set_option linter.unusedVariables false
set_option maxHeartbeats 64000000
def stepH (h:BitVec 32) (c:UInt8):BitVec 32:=(h ^^^ BitVec.ofNat 32 c.toNat) * 16777619#32
def moreH (h:BitVec 32) (l:List UInt8):BitVec 32:=l.foldl stepH h
def hashH (l:List UInt8):BitVec 32:=moreH 2166136261#32 l
theorem moreH_append (h:BitVec 32) (l m:List UInt8):moreH h (l ++ m) = moreH (moreH h l) m:=List.foldl_append
theorem moreH_snoc (h:BitVec 32) (l:List UInt8) (c:UInt8):moreH h (l ++ [c]) = stepH (moreH h l) c:=by rw [moreH_append]; rfl
def fold16 (x:BitVec 32):BitVec 32:=x ^^^ (x >>> 16)
def fold13 (x:BitVec 32):BitVec 32:=x ^^^ (x >>> 13)
def mixH (x:BitVec 32):BitVec 32:=fold16 (fold13 (fold16 x * 0x85EBCA6B#32) * 0xC2B2AE35#32)
def slotN (h:Nat) (n:Nat):Nat:=h * min n 2147483647 / 4294967296
theorem slot_lt {h n:Nat} (hh:h < 4294967296) (h1:1 ≤ n):slotN h n < min n 2147483647:=by
 unfold slotN
 rw [Nat.div_lt_iff_lt_mul (by decide)]
 rw [Nat.mul_comm]
 exact Nat.mul_lt_mul_of_pos_left hh (by omega)
end Go.Proofs.YtbnpelciceblfaaGreat
