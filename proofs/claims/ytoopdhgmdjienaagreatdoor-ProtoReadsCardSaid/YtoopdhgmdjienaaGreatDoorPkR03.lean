/- RowT TMem RowU RowV Open SMake Blk TBulk THelp TRef TRefB -/
import Derived.Test.YtoopdhgmdjienaaGreatDoorPkR02
import Derived.Test.YtoopdhgmdjienaaGreatDoorRows
import Derived.Lib.SmallJoins
import Derived.Deep.DeepCutAuto
import Derived.WalkLawsBesides
import Derived.BigQuiet
import Derived.Deep.RegionLaw
import Derived.Deep.RegionHeld3
namespace Go.Proofs.YtoopdhgmdjienaaGreatDoor
set_option linter.unusedVariables false
open Go.RowKit
set_option maxHeartbeats 64000000
theorem grownBy_but {W w:World} {row:Option Nat} (g:W.grownBy w row):WBut row.toList W w :=
 ⟨g.os,g.output,g.size,fun i hi hF => g.block i hi fun e => hF (by rw [← e]; simp)⟩
abbrev rowT (e:TypeId) (size:Nat) (v:Value) (n:Nat) (xs:List Value):Thing:=(v.ownBlock.toList,fun w => w.ownsRow 0 e size v n xs)
theorem ownsRow_heap {W w:World} {b:Nat} {e:TypeId} {size n:Nat} {v:Value} {xs:List Value} (h:W.ownsRow b e size v n xs) (k:∀ i ∈ v.ownBlock.toList,w.heap[i]? = W.heap[i]?):w.ownsRow b e size v n xs:=by
 refine ⟨h.1,?_⟩
 rcases h.2 with q | ⟨g,cap,cur,rfl,hb,hg,r⟩
 · exact .inl q
 · exact .inr ⟨g,cap,cur,rfl,hb,(k g (by simp [Value.ownBlock])).trans hg,r⟩
theorem rowT_stable (e:TypeId) (size n:Nat) (v:Value) (xs:List Value):(rowT e size v n xs).Stable:=fun W w h k => ownsRow_heap h k
theorem ownsRow_less {w:World} {b c:Nat} {e:TypeId} {size n:Nat} {v:Value} {xs:List Value} (h:w.ownsRow b e size v n xs) (k:c ≤ b):w.ownsRow c e size v n xs:=by
 refine ⟨h.1,?_⟩
 rcases h.2 with q | ⟨g,cap,cur,rfl,hb,r⟩
 · exact .inl q
 · exact .inr ⟨g,cap,cur,rfl,Nat.le_trans k hb,r⟩
theorem ownsRow_wider {W w:World} {b:Nat} {e:TypeId} {size n:Nat} {v:Value} {xs:List Value} (h:W.ownsRow b e size v n xs) (g:Wider W w):w.ownsRow b e size v n xs :=
 ownsRow_heap h fun i hi => wheap g (h.lt i (by simpa using hi)).2
theorem Own.row {V W w:World} {L:List Thing} (h:Own V W L) (g:Wider W w) {e:TypeId} {size n:Nat} {v:Value} {xs:List Value} (r:w.ownsRow W.heap.size e size v n xs):Own V w (rowT e size v n xs :: L) :=
 h.make g (ownsRow_less r (Nat.zero_le _)) (rowT_stable _ _ _ _ _) fun i hi => r.lt i (by simpa using hi)
theorem wider_append {W wr w1:World} {e:TypeId} {size n:Nat} {v:Value} {xs:List Value} (g:Wider W wr) (h:wr.ownsRow W.heap.size e size v n xs) (k:wr.grownBy w1 v.ownBlock):Wider W w1 :=
 (grownBy_but k).wider g fun i hi => (h.lt i (by simpa using hi)).1
theorem wider_appendA {W wr w1:World} {e:TypeId} {size n:Nat} {v:Value} {xs:List Value} {o:Obj} (g:Wider W wr) (h:wr.ownsRow W.heap.size e size v n xs) (k:(wr.alloc o).grownBy w1 v.ownBlock):Wider W w1 :=
 wider_append (g.alloc o) (h.alloc o) k
theorem wider_appendAd {W wr w1:World} {e:TypeId} {size n:Nat} {v:Value} {xs:List Value} {o:Obj} (g:Wider W wr) (h:wr.ownsRow W.heap.size e size v n xs) (k:(wr.alloc o).drew.grownBy w1 v.ownBlock):Wider W w1 :=
 wider_append (wr:=(wr.alloc o).drew) (g.alloc o) (h.alloc o) k
def cellA (a:AtN):List Value:=[.int .u8 (a.t:Int),.string a.v]
def cellsA (l:List AtN):List Value:=l.flatMap cellA
theorem cellsA_cons (a:AtN) (l:List AtN):cellsA (a :: l) = .int .u8 (a.t:Int) :: .string a.v :: cellsA l:=rfl
theorem cellsA_snoc (l:List AtN) (a:AtN):cellsA (l ++ [a]) = cellsA l ++ [.int .u8 (a.t:Int),.string a.v]:=by simp [cellsA,cellA]
theorem cellsA_length (l:List AtN):(cellsA l).length = l.length * 2:=by
 induction l with
 | nil => rfl
 | cons a l ih => rw [cellsA_cons]; simp only [List.length_cons]; rw [ih]; omega
theorem cellsA_at:∀ (l:List AtN) (j:Nat) (x:AtN),l[j]? = some x → (cellsA l)[j * 2]? = some (.int .u8 (x.t:Int)) ∧ (cellsA l)[j * 2 + 1]? = some (.string x.v):=by
 intro l
 induction l with
 | nil => intro j x h; simp at h
 | cons a l ih =>
   intro j x h
   rw [cellsA_cons]
   cases j with
   | zero => simp at h; subst h; simp
   | succ j =>
     have:=ih j x (by simpa using h)
     have e:(j + 1) * 2 = j * 2 + 1 + 1:=by omega
     rw [e]
     simpa using this
structure AtAt (w:World) (a:Addr) (x:AtN):Prop where
 c0:w.cell? a = some (.int .u8 (x.t:Int))
 c1:w.cell? (a.add 1) = some (.string x.v)
theorem AtAt.on {W w:World} {a:Addr} {x:AtN} (h:AtAt W a x) (g:Wider W w):AtAt w a x:=⟨wkeep g h.c0,wkeep g h.c1⟩
theorem AtAt.flat {w:World} {a:Addr} {x:AtN} (h:AtAt w a x):w.cell? ⟨a.block,a.off + 1,none⟩ = some (.string x.v):=by
 have e:a.add 1 = ⟨a.block,a.off + 1,none⟩:=by unfold Addr.add; simp
 rw [← e]; exact h.c1
structure AtsAt (w:World) (A:Option Addr) (l:List AtN):Prop where
 none_:A = none → l = []
 cell:∀ a,A = some a → ∀ j x,l[j]? = some x → AtAt w (a.add (j * 2)) x
theorem addr_add2 (a:Addr) (i j:Nat):(a.add i).add j = a.add (i + j):=by
 unfold Addr.add
 by_cases hi:i = 0 <;> by_cases hj:j = 0 <;> simp [hi,hj,Nat.add_assoc]
theorem atsAt_own {w:World} {b:Nat} {e:TypeId} {v:Value} {n:Nat} {l:List AtN} (h:w.ownsRow b e 2 v n (cellsA l)):∃ A cap,v = .slice A n cap ∧ AtsAt w A l ∧ l.length = n:=by
 have hl:=h.1
 rw [cellsA_length] at hl
 have hn:l.length = n:=by omega
 have hh:=h
 rcases h.2 with ⟨rfl,rfl⟩ | ⟨g,cap,cur,rfl,_⟩
 · have e0:l = []:=List.eq_nil_of_length_eq_zero hn
   subst e0
   exact ⟨none,0,rfl,⟨fun _ => rfl,fun a e => by cases e⟩,hn⟩
 · refine ⟨_,cap,rfl,⟨(fun e => by cases e),fun a e j x hx => ?_⟩,hn⟩
   obtain rfl:(⟨g,0,none⟩ : Addr) = a:=by injection e
   obtain ⟨q0,q1⟩:=cellsA_at l j x hx
   refine ⟨hh.cells rfl _ _ q0,?_⟩
   rw [addr_add2]
   exact hh.cells rfl _ _ q1
def cellsS (l:List ByteArray):List Value:=l.map Value.string
theorem cellsS_length (l:List ByteArray):(cellsS l).length = l.length:=by simp [cellsS]
theorem cellsS_snoc (l:List ByteArray) (s:ByteArray):cellsS (l ++ [s]) = cellsS l ++ [.string s]:=by simp [cellsS]
theorem strsAt_own {w:World} {b:Nat} {e:TypeId} {v:Value} {n:Nat} {l:List ByteArray} (h:w.ownsRow b e 1 v n (cellsS l)):∃ A cap,v = .slice A n cap ∧ StrsAt w A l ∧ l.length = n:=by
 have hl:=h.1
 rw [cellsS_length] at hl
 have hn:l.length = n:=by omega
 have hh:=h
 rcases h.2 with ⟨rfl,rfl⟩ | ⟨g,cap,cur,rfl,_⟩
 · have e0:l = []:=List.eq_nil_of_length_eq_zero hn
   subst e0
   exact ⟨none,0,rfl,StrsAt.nil w,hn⟩
 · refine ⟨_,cap,rfl,⟨(fun e => by cases e),fun a e j x hx => ?_⟩,hn⟩
   obtain rfl:(⟨g,0,none⟩ : Addr) = a:=by injection e
   exact hh.cells rfl _ _ (by simp [cellsS,hx])
theorem take_next {α:Type} (l:List α) (k:Nat) (x:α) (h:l[k]? = some x):l.take (k + 1) = l.take k ++ [x]:=by
 obtain ⟨hk,rfl⟩:=List.getElem?_eq_some_iff.1 h
 rw [List.take_succ_eq_append_getElem hk]
theorem next_some {α:Type} (l:List α) (k:Nat) (h:k < l.length):∃ x,l[k]? = some x:=⟨l[k],List.getElem?_eq_getElem h⟩
theorem run_append_any {P:Program} (w:World) (base:Nat) (t ty e:TypeId) (i:TypeInfo) (z:Value) (size bytes:Nat) (ht:P.underlying t = some (.slice e)) (hi:P.info? e = some i) (hz:i.zero = some z)
 (hsize:i.size = size) (hby:i.bytes = bytes) (hzs:z.cells.size = size) (hsz:0 < size)
 (v:Value) (n:Nat) (xs:List Value) (hown:w.ownsRow base e size v n xs)
 (A:Option Addr) (m c:Nat) (news:List Value) (hl:news.length = m * size) (h0:A = none → m = 0) (hnews:∀ a,A = some a → ∀ j u,news[j]? = some u → w.cell? (a.add j) = some u) (h1:∀ u ∈ news,u.oneCell' = true)
 (h63:n + m ≤ maxLen) (hbytes:(n + m) * bytes ≤ 140737488355328) (hbase:base ≤ w.heap.size) :
 ∃ v' w',(Builtin.append_ #[t,t] ty #[v,.slice A m c]).run P w = .ok v' w' ∧ w'.ownsRow base e size v' (n + m) (xs ++ news) ∧ w.grownBy w' v.ownBlock:=by
 cases A with
 | none =>
   obtain rfl:=h0 rfl
   have hnil:news = []:=List.eq_nil_of_length_eq_zero (by simpa using hl)
   subst hnil
   refine ⟨v,w,?_,by simpa using hown,⟨rfl,rfl,rfl,Nat.le_refl _,fun _ _ _ => rfl⟩⟩
   rcases hown.2 with ⟨rfl,rfl⟩ | ⟨g,cap,cur,rfl,_,_,hnc,_⟩
   · simp [Builtin.append_,run_underlying ht,sizeOf,typeInfo,hi,Builtin.lenOf,Builtin.firstCells]
   · simp [Builtin.append_,run_underlying ht,sizeOf,typeInfo,hi,Builtin.lenOf,Builtin.firstCells,hnc,storeCells]
 | some a =>
   obtain ⟨v',w',r,o,g,_⟩:=run_append_own (P:=P) w base t ty e i z size bytes ht hi hz hsize hby hzs hsz v n xs hown a m c news hl (hnews a rfl) h1 h63 hbytes hbase
   exact ⟨v',w',r,o,g⟩
theorem ownsRow_base {w:World} {b c:Nat} {e:TypeId} {size n:Nat} {v:Value} {xs:List Value} (h:w.ownsRow b e size v n xs) (k:∀ i ∈ v.ownBlock.toList,c ≤ i):w.ownsRow c e size v n xs:=by
 refine ⟨h.1,?_⟩
 rcases h.2 with q | ⟨g,cap,cur,rfl,hb,r⟩
 · exact .inl q
 · exact .inr ⟨g,cap,cur,rfl,k g (by simp [Value.ownBlock]),r⟩
theorem ownsRow_shape {w:World} {b:Nat} {e:TypeId} {size n:Nat} {v:Value} {xs:List Value} (h:w.ownsRow b e size v n xs):∃ B c2,v = .slice B n c2:=by
 rcases h.2 with ⟨rfl,q⟩ | ⟨g,cap,cur,rfl,_⟩
 · exact ⟨none,0,by rw [q]⟩
 · exact ⟨_,_,rfl⟩
theorem append_block {P:Program} {w:World} {base:Nat} {t ty e:TypeId} {i:TypeInfo} {z:Value} {size bytes:Nat} (ht:P.underlying t = some (.slice e)) (hi:P.info? e = some i) (hz:i.zero = some z)
 (hsize:i.size = size) (hby:i.bytes = bytes) (hzs:z.cells.size = size) (hsz:0 < size)
 {v:Value} {n:Nat} {xs:List Value} (hown:w.ownsRow base e size v n xs)
 {A:Option Addr} {m c:Nat} {news:List Value} (hl:news.length = m * size) (h0:A = none → m = 0) (hnews:∀ a,A = some a → ∀ j u,news[j]? = some u → w.cell? (a.add j) = some u) (h1:∀ u ∈ news,u.oneCell' = true)
 (h63:n + m ≤ maxLen) (hbytes:(n + m) * bytes ≤ 140737488355328)
 {v':Value} {w':World} (hr:(Builtin.append_ #[t,t] ty #[v,.slice A m c]).run P w = .ok v' w'):∀ k,v'.ownBlock = some k → v.ownBlock = some k ∨ w.heap.size ≤ k:=by
 intro k hk
 rcases hown.2 with ⟨rfl,rfl⟩ | ⟨g,cap,cur,rfl,hb,hg,hnc,hcm,hcs,htake⟩
 · obtain rfl:xs = []:=List.eq_nil_of_length_eq_zero (by simpa using hown.1)
   obtain ⟨v2,w2,r2,o2,_⟩:=run_append_any (P:=P) w w.heap.size t ty e i z size bytes ht hi hz hsize hby hzs hsz _ 0 [] (World.ownsRow_nil _ _ _ _) A m c news hl h0 hnews h1 h63 hbytes (Nat.le_refl _)
   rw [hr] at r2
   injection r2 with e1 e2
   subst e1
   exact .inr (o2.lt k hk).1
 · cases A with
   | none =>
     obtain rfl:=h0 rfl
     have r2:(Builtin.append_ #[t,t] ty #[Value.slice (some ⟨g,0,none⟩) n cap,.slice none 0 c]).run P w = .ok (Value.slice (some ⟨g,0,none⟩) n cap) w:=by
      simp [Builtin.append_,run_underlying ht,sizeOf,typeInfo,hi,Builtin.lenOf,Builtin.firstCells,hnc,storeCells]
     rw [hr] at r2
     injection r2 with e1 e2
     subst e1
     exact .inl hk
   | some a =>
     by_cases hroom:n + m ≤ cap
     · obtain ⟨w2,r2,_⟩:=run_append_fits (P:=P) w base t ty e i size ht hi hsize g n cap xs hown a m c news hl (hnews a rfl) h1 hroom
       rw [hr] at r2
       injection r2 with e1 e2
       subst e1
       exact .inl hk
     · subst hsize hby
       have holds:∀ j u,xs[j]? = some u → w.cell? ((⟨g,0,none⟩ : Addr).add j) = some u:=hown.cells (g:=g) rfl
       have r2:=run_append_grow (P:=P) w t ty e i z ht hi hz ⟨g,0,none⟩ n cap xs hown.1 holds a m c news hl (hnews a rfl) (by omega) (by simp only [maxLen] at h63; omega) (growslice_fits (by omega) hbytes)
       rw [hr] at r2
       injection r2 with e1 e2
       subst e1
       simp only [Value.ownBlock,Option.some.injEq] at hk
       exact .inr (by omega)
theorem wpList_append_thing {P:Program} {V w:World} {L:List Thing} {ops:Array Oper} {rest:List Oper} {o:Oper} {a:Act} {Q:Exit → Act → World → Prop} (hgd:o.guard = none) (s x:Operand) (t:TypeId)
 (ho:o.op = .call { callee:=.builtin .append,args:=#[s,x],argTypes:=#[t,t] })
 (e:TypeId) (i:TypeInfo) (z:Value) (size bytes:Nat) (ht:P.underlying t = some (.slice e)) (hi:P.info? e = some i) (hz:i.zero = some z)
 (hsize:i.size = size) (hby:i.bytes = bytes) (hzs:z.cells.size = size) (hsz:0 < size)
 (v:Value) (n:Nat) (xs:List Value) (hs:a.eval s = v) (H:Own V w (rowT e size v n xs :: L))
 (A:Option Addr) (m c:Nat) (news:List Value) (hx:a.eval x = .slice A m c) (hl:news.length = m * size) (h0:A = none → m = 0) (hnews:∀ a,A = some a → ∀ j u,news[j]? = some u → w.cell? (a.add j) = some u) (h1:∀ u ∈ news,u.oneCell' = true)
 (h63:n + m ≤ maxLen) (hbytes:(n + m) * bytes ≤ 140737488355328) {k:Nat} (hk:n + m = k) {ys:List Value} (hys:xs ++ news = ys)
 (h:∀ B c2 w',Own V w' (rowT e size (.slice B k c2) k ys :: L) → wpList P ops Q rest (a.put o.dst (.slice B k c2)) w'):wpList P ops Q (o :: rest) a w:=by
 subst hk hys
 refine wpList_plain hgd fun K hK => ?_
 obtain ⟨v',w',hr,h2,h3⟩:=run_append_any (P:=P) w 0 t o.type e i z size bytes ht hi hz hsize hby hzs hsz v n xs H.head A m c news hl h0 hnews h1 h63 hbytes (Nat.zero_le _)
 have hb:=append_block (P:=P) ht hi hz hsize hby hzs hsz H.head hl h0 hnews h1 h63 hbytes hr
 unfold Oper.wp execOp
 simp only [ho,resolve,invoke,builtin,Sem.run_bind,Sem.run_pure,Result.andThen_ok,List.map_toArray,List.map_cons,List.map_nil,hs,hx,hr]
 obtain ⟨B,c2,rfl⟩:=ownsRow_shape h2
 refine hK _ _ (h B c2 w' (H.turn (s:=rowT e size (.slice B (n + m) c2) (n + m) (xs ++ news)) (grownBy_but h3) h2 (rowT_stable _ _ _ _ _) fun j hj => ?_))
 have hj2:(Value.slice B (n + m) c2).ownBlock = some j:=by simpa using hj
 refine ⟨?_,(h2.lt j hj2).2⟩
 rcases hb j hj2 with q | q
 · exact .inl (by simp [q])
 · exact .inr q
theorem Own.perm {V w:World} {L M:List Thing} (h:Own V w L) (p:L.Perm M):Own V w M where
 holds r m:=h.holds r (p.mem_iff.2 m)
 new r m:=h.new r (p.mem_iff.2 m)
 apart:=(p.pairwise_iff (fun {r q} hrq i hi hq => hrq i hq hi)).1 h.apart
 stable r m:=h.stable r (p.mem_iff.2 m)
 wider:=h.wider
theorem Own.third {V w:World} {x y z:Thing} {L:List Thing} (h:Own V w (x :: y :: z :: L)):Own V w (z :: x :: y :: L) :=
 h.perm (((List.Perm.swap z y L).cons x).trans (List.Perm.swap z x (y :: L)))
theorem Own.fourth {V w:World} {x y z u:Thing} {L:List Thing} (h:Own V w (x :: y :: z :: u :: L)):Own V w (u :: x :: y :: z :: L) :=
 h.perm ((((List.Perm.swap u z L).cons y).trans (List.Perm.swap u y (z :: L))).cons x |>.trans (List.Perm.swap u x (y :: z :: L)))
end Go.Proofs.YtoopdhgmdjienaaGreatDoor
namespace Go.Proofs.YtoopdhgmdjienaaGreatDoor
set_option linter.unusedVariables false
open Go.ChangeShapes Go.WideShapes Go.ChangeAt Go.RowKit Go.Joins
set_option maxHeartbeats 64000000
theorem own:ownKnob Tryz.prog.godebug = none:=by kernel_rfl
theorem bounds_u64 {n:Int} (h:(Lit.int .u64 n).wf = true):0 ≤ n ∧ n < 18446744073709551616:=by
 simp only [Lit.wf,Bool.and_eq_true,decide_eq_true_eq] at h
 have h1:IntKind.u64.min = 0:=rfl
 have h2:IntKind.u64.max = 18446744073709551615:=rfl
 omega
theorem bounds_i64 {n:Int} (h:(Lit.int .i64 n).wf = true):-9223372036854775808 ≤ n ∧ n ≤ 9223372036854775807:=by
 simp only [Lit.wf,Bool.and_eq_true,decide_eq_true_eq] at h
 have h1:IntKind.i64.min = -9223372036854775808:=rfl
 have h2:IntKind.i64.max = 9223372036854775807:=rfl
 omega
end Go.Proofs.YtoopdhgmdjienaaGreatDoor
namespace Go.Proofs.YtoopdhgmdjienaaGreatDoor
set_option linter.unusedVariables false
open Go.RowKit
set_option maxHeartbeats 64000000
def zerosN (n:Nat):Array Value:=madeCells (Value.int .u8 0).cells n
theorem zerosN_at (n j:Nat) (h:j < n):(zerosN n)[j]? = some (.int .u8 0):=by
 unfold zerosN
 have e:(Value.int IntKind.u8 0).cells = #[Value.int .u8 0]:=rfl
 rw [e]
 have m:j % 1 = 0:=by omega
 simp [madeCells,h,m]
theorem infoN:(Tryz.prog.info? 5).map (fun i => (i.zero,i.size,i.bytes)) = some (some (.int .u8 0),1,1):=by kernel_rfl
theorem infoN_parts:∃ i,Tryz.prog.info? 5 = some i ∧ i.zero = some (.int .u8 0) ∧ i.size = 1 ∧ i.bytes = 1:=by
 have h:=infoN
 cases e:Tryz.prog.info? 5 with
 | none => rw [e] at h; cases h
 | some i =>
   rw [e] at h
   simp only [Option.map_some,Option.some.injEq,Prod.mk.injEq] at h
   exact ⟨i,rfl,h.1,h.2.1,h.2.2⟩
theorem makeN (n:Nat) (hn:n < 1000000) (w:World):(Instr.makeSlice 24 (.int .i64 (n:Int)) (.int .i64 (n:Int))).run Tryz.prog w = .ok (.slice (some ⟨w.heap.size,0,none⟩) n n) (w.alloc (.cells (zerosN n) 5)):=by
 obtain ⟨i0,hi,hz0,hz1,hz2⟩:=infoN_parts
 have h:=run_make (P:=Tryz.prog) (w:=w) 24 5 i0 (.int .u8 0) Tryz.underlying24 hi hz0 .i64 .i64 (n:Int) (n:Int) (by omega) (by omega) (by rw [hz2]; omega) (by omega)
 rw [hz1,Int.toNat_natCast,Nat.mul_one] at h
 exact h
structure Bts (w:World) (B n:Nat) (v:Nat → Int):Prop where
 cell:∀ j,j < n → w.cell? ⟨B,j,none⟩ = some (.int .u8 (v j))
 free:∀ j,j < n → w.frozen? ⟨B,j,none⟩ = false
theorem Bts.on {W w:World} {B n:Nat} {v:Nat → Int} (h:Bts W B n v) (g:Wider W w):Bts w B n v :=
 ⟨fun j hj => wkeep g (h.cell j hj),fun j hj => wfree g (h.cell j hj) (h.free j hj)⟩
theorem Bts.congr {w:World} {B n:Nat} {v u:Nat → Int} (h:Bts w B n v) (e:∀ j,j < n → v j = u j):Bts w B n u:=⟨fun j hj => by rw [h.cell j hj,e j hj],h.free⟩
theorem Bts.put {w:World} {B n k:Nat} {y:Int} {v u:Nat → Int} (h:Bts w B n v) (hk:k < n) (e:∀ j,j < n → u j = if j = k then y else v j):Bts (w.setCell ⟨B,k,none⟩ (.int .u8 y)) B n u where
 cell j hj:=by
  rw [e j hj]
  by_cases q:j = k
  · subst q; rw [if_pos rfl]; exact csame (h.cell j hj)
  · rw [if_neg q,cother (by intro r; injection r; omega)]; exact h.cell j hj
 free j hj:=(World.frozen?_setCell _ _ _ _).trans (h.free j hj)
theorem Bts.made (w:World) (n:Nat):Bts (w.alloc (.cells (zerosN n) 5)) w.heap.size n (fun _ => 0) where
 cell j hj:=by rw [World.cell?_alloc_new]; exact zerosN_at n j hj
 free j hj:=by simp [go_sem]
theorem Bts.text (w:World) (s:ByteArray) (cap:Nat) (e:TypeId):Bts (w.alloc (.cells (bytesRow s cap) e ((bytesRow s cap).size,(bytesRow s cap).size + 1))) w.heap.size s.size (fun j => ((s.data.toList.getD j 0).toNat:Int)) where
 cell j hj:=by
  have q:=World.cell?_alloc_mark w (bytesRow s cap) e ((bytesRow s cap).size,(bytesRow s cap).size + 1) j
  rw [bytesRow_at s cap j hj] at q
  rw [q]
  have e2:s.data.toList.getD j 0 = s.data[j]:=by
   rw [List.getD_eq_getElem?_getD,List.getElem?_eq_getElem (by simpa using hj)]; rfl
  rw [e2]
 free j hj:=by
  have q:=World.frozen?_alloc_mark w (bytesRow s cap) e (bytesRow s cap).size ((bytesRow s cap).size + 1) j
  have l:s.size ≤ (bytesRow s cap).size:=by unfold bytesRow; simp
  have l2:decide ((bytesRow s cap).size ≤ j) = false:=by simp; omega
  rw [l2,Bool.false_and] at q
  exact q
theorem Bts.conv {w:World} {B n:Nat} {v:Nat → Int} (h:Bts w B n v) (cap:Nat) {T:ByteArray} (hT:strOfNums ((List.range n).map v) = T) :
 (convert 24 9 (.slice (some ⟨B,0,none⟩) n cap)).run Tryz.prog w = .ok (.string T) w:=by
 have c:=run_convert_bytes_arg (P:=Tryz.prog) w 24 5 Tryz.underlying24 Tryz.underlying5 B 0 n cap ((List.range n).map v) (by simp) (fun i hi => by
  rw [Nat.zero_add,h.cell i hi,List.getD_eq_getElem?_getD,List.getElem?_map,List.getElem?_range hi]; rfl) 9 Tryz.underlying9
 rw [hT] at c
 exact c
end Go.Proofs.YtoopdhgmdjienaaGreatDoor
namespace Go.Proofs.YtoopdhgmdjienaaGreatDoor
set_option linter.unusedVariables false
open Go.ChangeShapes Go.WideShapes Go.ChangeAt Go.RowKit Go.Joins
set_option maxHeartbeats 64000000
def cellsB (l:List UInt8):List Value:=l.map fun b => Value.int .u8 (b.toNat:Int)
theorem cellsB_length (l:List UInt8):(cellsB l).length = l.length:=by simp [cellsB]
theorem cellsB_append (l m:List UInt8):cellsB (l ++ m) = cellsB l ++ cellsB m:=by simp [cellsB]
theorem cellsB_str (s:ByteArray):Lib.strCells s = cellsB s.data.toList:=rfl
theorem nums_mkB (l:List UInt8):strOfNums (l.map fun b => (b.toNat:Int)) = mkB l:=by
 apply ba_ext
 rw [strOfNums_data,mkB_data,List.map_map]
 conv => rhs; rw [← List.map_id l]
 refine List.map_congr_left fun b _ => ?_
 show UInt8.ofNat ((b.toNat:Int).toNat) = b
 rw [Int.toNat_natCast]; simp
theorem own_text {w:World} {b n:Nat} {v:Value} {l:List UInt8} (h:w.ownsRow b 5 1 v n (cellsB l)):(convert 24 9 v).run Tryz.prog w = .ok (.string (mkB l)) w:=by
 have hl:=h.1
 rw [cellsB_length,Nat.mul_one] at hl
 have hh:=h
 rcases h.2 with ⟨rfl,rfl⟩ | ⟨g,cap,cur,rfl,_⟩
 · have e0:l = []:=List.eq_nil_of_length_eq_zero hl
   subst e0
   exact run_convert_bytes_nil w 24 5 Tryz.underlying24 Tryz.underlying5 0 0 9 Tryz.underlying9
 · have c:=run_convert_bytes_arg (P:=Tryz.prog) w 24 5 Tryz.underlying24 Tryz.underlying5 g 0 n cap (l.map fun b => (b.toNat:Int)) (by simp [hl]) (fun i hi => by
    have q:=hh.cells rfl i (.int .u8 ((l.map fun b => (b.toNat:Int)).getD i 0)) (by
     rw [List.getD_eq_getElem?_getD]
     simp only [cellsB,List.getElem?_map]
     rw [List.getElem?_eq_getElem (by omega)]; rfl)
    rw [Addr.add_lit] at q
    exact q) 9 Tryz.underlying9
   rw [nums_mkB] at c
   exact c
abbrev blkT (B:Nat) (C:Array Value) (t:TypeId):Thing:=([B],fun w => w.heap[B]? = some (.cells C t (0,0)))
theorem blk_stable (B:Nat) (C:Array Value) (t:TypeId):(blkT B C t).Stable:=fun W w h k => (k B (by simp)).trans h
theorem blk_cell {w:World} {B:Nat} {C:Array Value} {t:TypeId} (h:w.heap[B]? = some (.cells C t (0,0))) (j:Nat) {v:Value} (e:C[j]? = some v):w.cell? ⟨B,j,none⟩ = some v:=by
 unfold World.cell?; simp [h,e]
theorem blk_free {w:World} {B:Nat} {C:Array Value} {t:TypeId} (h:w.heap[B]? = some (.cells C t (0,0))) (j:Nat):w.frozen? ⟨B,j,none⟩ = false:=by
 unfold World.frozen?; simp [h]
theorem Own.blk {V w:World} {L:List Thing} (H:Own V w L) (C:Array Value) (t:TypeId):Own V (w.alloc (.cells C t)) (blkT w.heap.size C t :: L):=by
 have e:(w.alloc (.cells C t)).heap[w.heap.size]? = some (.cells C t (0,0)):=heap_alloc_new w _
 have l:(w.alloc (.cells C t)).heap.size = w.heap.size + 1:=by simp
 exact H.make ((Wider.refl w).alloc _) e (blk_stable _ _ _) fun i hi => by
  obtain rfl:i = w.heap.size:=by simpa using hi
  omega
theorem Own.store {V w:World} {L:List Thing} {B:Nat} {C:Array Value} {t:TypeId} (H:Own V w (blkT B C t :: L)) (j:Nat) (v:Value):Own V (w.setCell ⟨B,j,none⟩ v) (blkT B (C.setIfInBounds j v) t :: L):=by
 have hB:=H.head
 have l:(w.setCell ⟨B,j,none⟩ v).heap.size = w.heap.size:=by simp [World.setCell]
 refine H.turn (setCell_but w ⟨B,j,none⟩ v) ?_ (blk_stable _ _ _) fun i hi => ⟨.inl hi,by rw [l]; exact (H.new _ (.head _) i hi).2⟩
 show (w.setCell ⟨B,j,none⟩ v).heap[B]? = _
 simp only [World.setCell,Array.getElem?_modify,if_true]
 rw [hB]; rfl
theorem Own.last {V w:World} {L:List Thing} {r:Thing} (H:Own V w L) (hs:r.2 w) (hst:r.Stable) (hn:r.1 = []):Own V w (L ++ [r]) where
 holds x m:=by
  rcases List.mem_append.1 m with m | m
  · exact H.holds x m
  · obtain rfl:x = r:=by simpa using m
    exact hs
 new x m i hi:=by
  rcases List.mem_append.1 m with m | m
  · exact H.new x m i hi
  · obtain rfl:x = r:=by simpa using m
    rw [hn] at hi; simp at hi
 apart:=by
  rw [List.pairwise_append]
  refine ⟨H.apart,by simp,fun a _ b hb => ?_⟩
  obtain rfl:b = r:=by simpa using hb
  intro i _; rw [hn]; simp
 stable x m:=by
  rcases List.mem_append.1 m with m | m
  · exact H.stable x m
  · obtain rfl:x = r:=by simpa using m
    exact hst
 wider:=H.wider
theorem Own.nils {V w:World} {L:List Thing} (H:Own V w L) (e:TypeId) (size:Nat):Own V w (L ++ [rowT e size (.slice none 0 0) 0 []]) :=
 H.last (World.ownsRow_nil _ _ _ _) (rowT_stable _ _ _ _ _) rfl
theorem own_base {V w:World} {L:List Thing} {e:TypeId} {size n:Nat} {v:Value} {xs:List Value} (H:Own V w (rowT e size v n xs :: L)):w.ownsRow V.heap.size e size v n xs :=
 ownsRow_base H.head fun i hi => (H.new _ (.head _) i hi).1
theorem lies2 (w:World) (u v:Value) (t:TypeId) (hu:u.oneCell' = true) (hv:v.oneCell' = true) :
 (∀ (j:Nat) (x:Value),([u,v] : List Value)[j]? = some x → (w.alloc (.cells #[u,v] t)).cell? ((⟨w.heap.size,0,none⟩ : Addr).add j) = some x) ∧ (∀ x ∈ ([u,v] : List Value),x.oneCell' = true):=by
 refine ⟨fun j x hj => ?_,fun x hx => ?_⟩
 · match j,hj with
   | 0,hj => simp at hj; subst hj; simp [Addr.add,go_sem]
   | 1,hj => simp at hj; subst hj; simp [Addr.add,go_sem]
   | j + 2,hj => simp at hj
 · simp only [List.mem_cons,List.not_mem_nil,or_false] at hx
   rcases hx with rfl | rfl
   · exact hu
   · exact hv
theorem lies1 (w:World) (u:Value) (t:TypeId) (hu:u.oneCell' = true) :
 (∀ (j:Nat) (x:Value),([u] : List Value)[j]? = some x → (w.alloc (.cells #[u] t)).cell? ((⟨w.heap.size,0,none⟩ : Addr).add j) = some x) ∧ (∀ x ∈ ([u] : List Value),x.oneCell' = true):=by
 refine ⟨fun j x hj => ?_,fun x hx => ?_⟩
 · match j,hj with
   | 0,hj => simp at hj; subst hj; simp [Addr.add,go_sem]
   | j + 1,hj => simp at hj
 · simp only [List.mem_cons,List.not_mem_nil,or_false] at hx
   rcases hx with rfl
   exact hu
theorem mkB_append (l m:List UInt8):mkB l ++ mkB m = mkB (l ++ m):=by
 apply ba_ext; rw [ByteArray.data_append,Array.toList_append,mkB_data,mkB_data,mkB_data]
theorem btake_next (s:ByteArray) (k:Nat) (h:k < s.size):s.data.toList.take (k + 1) = s.data.toList.take k ++ [s[k]]:=by
 rw [List.take_succ_eq_append_getElem (by rw [← size_data]; exact h)]; rfl
def strLen:Value → Nat
 | .string s => s.size
 | _ => 0
theorem extract_list (s:ByteArray) (a b:Nat):(s.extract a b).data.toList = (s.data.toList.take b).drop a:=by
 rw [ByteArray.data_extract,Array.toList_extract]
 simp [List.extract,List.drop_take]
theorem ne_empty (s:ByteArray) (h:s.size ≠ 0):s.toList.isEmpty = false ∧ ¬ s.toList = []:=by
 have e:s.toList.length = s.size:=by rw [ByteArray.toList_eq]; simp
 constructor
 · cases q:s.toList with
   | nil => rw [q] at e; simp at e; omega
   | cons => rfl
 · intro q; rw [q] at e; simp at e; omega
theorem cellsS_append (l m:List ByteArray):cellsS (l ++ m) = cellsS l ++ cellsS m:=by simp [cellsS]
theorem Own.strs {V:World} {L:List Thing} {w:World} {E:TypeId} {A:Option Addr} {n cap:Nat} {l:List ByteArray} (H:Own V w (rowT E 1 (.slice A n cap) n (cellsS l) :: L)):StrsAt w A l:=by
 obtain ⟨A',cap',e,h,_⟩:=strsAt_own H.head
 injection e with e1 e2 e3
 subst e1
 exact h
theorem infoStr:(Tryz.prog.info? 9).map (fun i => (i.zero,i.size,i.bytes)) = some (some (.string ⟨#[]⟩),1,16):=by kernel_rfl
end Go.Proofs.YtoopdhgmdjienaaGreatDoor
namespace Go.Proofs.YtoopdhgmdjienaaGreatDoor
set_option linter.unusedVariables false
open Go.ChangeShapes Go.WideShapes Go.ChangeAt Go.RowKit Go.Joins
open Go.ChangeMaps (open_string shut_string)
set_option maxHeartbeats 64000000
theorem infoTlv:(Tryz.prog.info? 89).map (fun i => (i.zero,i.size,i.bytes)) = some (some (.agg #[.int .u8 0,.string ⟨#[]⟩]),2,24):=by kernel_rfl
theorem infoRef:(Tryz.prog.info? 77).map (fun i => (i.zero,i.size,i.bytes)) = some (some (.agg #[.int .u8 0,.string ⟨#[]⟩]),2,24):=by kernel_rfl
theorem unword_int (a b:UInt8):(a.toNat:Int) * 256 + (b.toNat:Int) = (unword a b:Int):=by unfold unword; omega
theorem rnumber_c (s:ByteArray) (hs:s.size < 1152921504606846976) (a b:UInt8) (r:List UInt8) (h:s.data.toList = a :: b :: r) (w:World) :
 Calls Tryz.prog 72 #[.string s] w fun e w' => e = .returned (.int .i64 (unword a b:Int)) ∧ Wider w w':=by
 have hz:s.size = r.length + 2:=by rw [size_data,h]; simp
 have i0:(0:Int) < (s.size:Int):=by omega
 have i1:(1:Int) < (s.size:Int):=by omega
 have g0:0 < s.size:=by omega
 have g1:1 < s.size:=by omega
 have e0:s[0].toNat = a.toNat:=by
  have:s.data.toList[0]'(by rw [h]; simp) = a:=by simp [h]
  rw [← this]; rfl
 have e1:s[1].toNat = b.toNat:=by
  have:s.data.toList[1]'(by rw [h]; simp) = b:=by simp [h]
  rw [← this]; rfl
 have la:=a.toNat_lt; have lb:=b.toNat_lt
 have U:=Lib.hid (unword_int a b)
 clear h
 go_enter Tryz.func72,Tryz.ntmps72
 go_wp2
 go_quiet (fail)
 go_wp2
 go_ret
 exact ⟨by rw [← U.out]; rfl,(Wider.refl w).drewN _⟩
theorem okA_upto (l:List AtN) (k:Nat) {c:Nat} (h:okA 0 (l.take k) = c) (hc:c ≠ 0):okA 0 l = c:=by
 rw [← List.take_append_drop k l,okA_append,if_neg (by rw [h]; exact hc),h]
theorem okT_upto (l:List ByteArray) (k:Nat) {c:Nat} (h:okT (l.take k) = c) (hc:c ≠ 0):okT l = c:=by
 rw [← List.take_append_drop k l,okT_append,if_neg (by rw [h]; exact hc),h]
theorem encA_bad {l:List AtN} {c:Nat} (h:okA 0 l = c) (hc:c ≠ 0):encA l = ⟨#[]⟩:=by unfold encA; rw [if_neg (by rw [h]; exact hc)]
theorem encA_good {l:List AtN} (h:okA 0 l = 0):encA l = mkB (bytsA l):=by unfold encA; rw [if_pos h]
theorem encT_bad {l:List ByteArray} {c:Nat} (h:okT l = c) (hc:c ≠ 0):encT l = ⟨#[]⟩:=by unfold encT; rw [if_neg (by rw [h]; exact hc)]
theorem encT_good {l:List ByteArray} (h:okT l = 0):encT l = mkB (bytsT l):=by unfold encT; rw [if_pos h]
end Go.Proofs.YtoopdhgmdjienaaGreatDoor
