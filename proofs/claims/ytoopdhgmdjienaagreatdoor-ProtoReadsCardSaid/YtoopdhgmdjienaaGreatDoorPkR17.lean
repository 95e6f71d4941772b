/- ORdTable ORepTable -/
import Derived.Test.YtoopdhgmdjienaaGreatDoorPkR16
import Derived.Test.YtoopdhgmdjienaaGreatDoorPkR14
namespace Go.Proofs.YtoopdhgmdjienaaGreatDoor
set_option linter.unusedVariables false
set_option maxRecDepth 20000
open Go.ChangeShapes Go.WideShapes Go.ChangeAt Go.RowKit Go.Joins
open Go.ChangeMaps (open_string shut_string)
set_option maxHeartbeats 64000000
theorem table_gets {W:World} {x:FnP} {B b0:Nat} (hb:B < b0) (hB:W.heap[B]? = some (.cells #[.int .i64 0,.int .u8 0,.slice none 0 0,.int .i64 0,.int .i64 0] 37 (0,0)))
 {x0 x1 x2 x3 x4:FnP} (hR:RecAt b0 W x [x0,x1,x2,x3,x4]) (hp:NumP .i64 2147483647 (by decide) b0 W x0 (⟨B,0,none⟩ : Addr) ∧ NumP .u8 255 (by decide) b0 W x1 (⟨B,0 + 1,none⟩ : Addr) ∧ PartV lKeys (inL ksKey) (relL 3 1 ksKey) b0 W x2 (⟨B,0 + 2,none⟩ : Addr) ∧ NumP .i64 2147483647 (by decide) b0 W x3 (⟨B,0 + 3,none⟩ : Addr) ∧ NumP .i64 2147483647 (by decide) b0 W x4 (⟨B,0 + 4,none⟩ : Addr)) (s:ByteArray) (hs:s.size < 1000000) {v0:Int} {v1:Int} {v3:Int} {v4:Int} {L:List (List Int)} {r:Nat} (hr:decG csTable s.data.toList = ([ValN.num v0,ValN.num v1,ValN.lst L,ValN.num v3,ValN.num v4],r)) :
 Enters Tryz.prog x.gf ∧ Calls Tryz.prog x.gf (#[.string s] ++ x.gc) W fun e w' => e = .returned (.int .i64 (r:Int)) ∧ WBut [B] W w' ∧ (r = 0 → ∃ (A:Option Addr) (n cap:Nat),w'.heap[B]? = some (.cells #[.int .i64 v0,.int .u8 v1,.slice A n cap,.int .i64 v3,.int .i64 v4] 37 (0,0)) ∧ L.length = n ∧ w'.ownsRow (B + 1) 3 1 (.slice A n cap) n (cellsK ksKey L)):=by
 obtain ⟨h0,h1,h2,h3,h4⟩:=hp
 have k:=recget_c (B:=B) hR (cs:=csTable) (os:=[0,1,2,3,4]) (Rs:=[relV .i64,relV .u8,relL 3 1 ksKey,relV .i64,relV .i64]) rfl rfl rfl (by decide) (by
  intro R hR
  simp only [List.mem_cons,List.not_mem_nil,or_false] at hR
  rcases hR with rfl | rfl | rfl | rfl | rfl
  · exact relV_S _
  · exact relV_S _
  · exact relL_S _ _ _
  · exact relV_S _
  · exact relV_S _
  ) (by decide) (fun k p c o R e1 e2 e3 e4 => by
  match k,e1,e2,e3,e4 with
  | 0,e1,e2,e3,e4 =>
    simp [csTable] at e1 e2 e3 e4
    subst e1 e2 e3 e4
    exact h0.part.get
  | 1,e1,e2,e3,e4 =>
    simp [csTable] at e1 e2 e3 e4
    subst e1 e2 e3 e4
    exact h1.part.get
  | 2,e1,e2,e3,e4 =>
    simp [csTable] at e1 e2 e3 e4
    subst e1 e2 e3 e4
    exact h2.get
  | 3,e1,e2,e3,e4 =>
    simp [csTable] at e1 e2 e3 e4
    subst e1 e2 e3 e4
    exact h3.part.get
  | 4,e1,e2,e3,e4 =>
    simp [csTable] at e1 e2 e3 e4
    subst e1 e2 e3 e4
    exact h4.part.get
  | k + 5,e1,e2,e3,e4 => simp at e1) hb
 refine ⟨k.1,(k.2 W _ _ (Keeps.refl _ _) hB (by decide) ?_ s hs _ r hr).mono ?_⟩
 · intro k o R y e1 e2 e3
   match k,e1,e2,e3 with
   | 0,e1,e2,e3 =>
     simp [csTable,zeroG] at e1 e2 e3
     subst e1 e2 e3
     exact ⟨_,rfl,0,rfl,rfl⟩
   | 1,e1,e2,e3 =>
     simp [csTable,zeroG] at e1 e2 e3
     subst e1 e2 e3
     exact ⟨_,rfl,0,rfl,rfl⟩
   | 2,e1,e2,e3 =>
     simp [csTable,zeroG] at e1 e2 e3
     subst e1 e2 e3
     exact ⟨_,rfl,none,0,0,[],rfl,rfl,rfl,World.ownsRow_nil _ _ _ _⟩
   | 3,e1,e2,e3 =>
     simp [csTable,zeroG] at e1 e2 e3
     subst e1 e2 e3
     exact ⟨_,rfl,0,rfl,rfl⟩
   | 4,e1,e2,e3 =>
     simp [csTable,zeroG] at e1 e2 e3
     subst e1 e2 e3
     exact ⟨_,rfl,0,rfl,rfl⟩
   | k + 5,e1,e2,e3 => simp at e1
 · rintro e w3 ⟨rfl,g3,h⟩
   refine ⟨rfl,g3,fun h0 => ?_⟩
   obtain ⟨C',hC,hs',_,hst⟩:=h h0
   obtain ⟨u0,hu0,hv0⟩:=hst 0 0 _ _ rfl rfl rfl
   obtain ⟨n0,q0,rfl⟩:=hv0
   injection q0 with q0
   subst q0
   obtain ⟨u1,hu1,hv1⟩:=hst 1 1 _ _ rfl rfl rfl
   obtain ⟨n1,q1,rfl⟩:=hv1
   injection q1 with q1
   subst q1
   obtain ⟨u2,hu2,hv2⟩:=hst 2 2 _ _ rfl rfl rfl
   obtain ⟨A,n,cap,L2,rfl,qL,hLn,hLo⟩:=hv2
   injection qL with qL
   subst qL
   obtain ⟨u3,hu3,hv3⟩:=hst 3 3 _ _ rfl rfl rfl
   obtain ⟨n3,q3,rfl⟩:=hv3
   injection q3 with q3
   subst q3
   obtain ⟨u4,hu4,hv4⟩:=hst 4 4 _ _ rfl rfl rfl
   obtain ⟨n4,q4,rfl⟩:=hv4
   injection q4 with q4
   subst q4
   have e:C' = #[.int .i64 v0,.int .u8 v1,.slice A n cap,.int .i64 v3,.int .i64 v4]:=by
    refine arr_of hs' fun i hi => ?_
    have hi:i < 5:=hi
    match i,hi with
    | 0,_ => exact hu0
    | 1,_ => exact hu1
    | 2,_ => exact hu2
    | 3,_ => exact hu3
    | 4,_ => exact hu4
    | i + 5,h => omega
   subst e
   exact ⟨A,n,cap,hC,hLn,hLo⟩
theorem rdTable_c (s:ByteArray) (w:World) (hs:s.size < 1000000) {v0:Int} {v1:Int} {v3:Int} {v4:Int} {L:List (List Int)} {r:Nat} (hr:decG csTable s.data.toList = ([ValN.num v0,ValN.num v1,ValN.lst L,ValN.num v3,ValN.num v4],r)) :
 Calls Tryz.prog 128 #[.string s,.func (.func 129) #[] #[]] w fun e w' => ∃ (A:Option Addr) (n cap:Nat),e = .returned (.tuple #[.agg #[.int .i64 v0,.int .u8 v1,.slice A n cap,.int .i64 v3,.int .i64 v4],.int .i64 (r:Int)]) ∧ Wider w w' ∧ L.length = n ∧ w'.ownsRow w.heap.size 3 1 (.slice A n cap) n (cellsK ksKey L):=by
 have H:=(((Own.nil (Wider.refl w)).blk #[.int .i64 0,.int .u8 0,.slice none 0 0,.int .i64 0,.int .i64 0] 37).blk #[.int .i64 0,.int .u8 0,.slice none 0 0,.int .i64 0,.int .i64 0] 37).blk #[.int .i64 0,.int .u8 0,.slice none 0 0,.int .i64 0,.int .i64 0] 37
 have z1:(w.alloc (.cells #[.int .i64 0,.int .u8 0,.slice none 0 0,.int .i64 0,.int .i64 0] 37)).heap.size = w.heap.size + 1:=by simp
 have z2:((w.alloc (.cells #[.int .i64 0,.int .u8 0,.slice none 0 0,.int .i64 0,.int .i64 0] 37)).alloc (.cells #[.int .i64 0,.int .u8 0,.slice none 0 0,.int .i64 0,.int .i64 0] 37)).heap.size = w.heap.size + 2:=by simp
 rw [z1,z2] at H
 have z3:(((w.alloc (.cells #[.int .i64 0,.int .u8 0,.slice none 0 0,.int .i64 0,.int .i64 0] 37)).alloc (.cells #[.int .i64 0,.int .u8 0,.slice none 0 0,.int .i64 0,.int .i64 0] 37)).alloc (.cells #[.int .i64 0,.int .u8 0,.slice none 0 0,.int .i64 0,.int .i64 0] 37)).heap.size = w.heap.size + 3:=by simp
 have zs:=table_s (((w.alloc (.cells #[.int .i64 0,.int .u8 0,.slice none 0 0,.int .i64 0,.int .i64 0] 37)).alloc (.cells #[.int .i64 0,.int .u8 0,.slice none 0 0,.int .i64 0,.int .i64 0] 37)).alloc (.cells #[.int .i64 0,.int .u8 0,.slice none 0 0,.int .i64 0,.int .i64 0] 37)) ⟨w.heap.size + 1,0,none⟩
 rw [z3] at zs
 have hbad:=decG_bad csTable s.data.toList
 rw [hr] at hbad
 have hfg:=fld_get
 have HR:=Lib.hid hr
 have HBAD:=Lib.hid hbad
 have HH:=Lib.hid H
 clear z1 z2 z3 hr hbad H
 by_cases r0:r = 0
 · subst r0
   go_enter Tryz.func128,Tryz.ntmps128
   go_wp2_with (first
    | (go_at_call 129; (with_reducible refine zs.mono ?_); rintro e wA ⟨x,rfl,g1,x0,x1,x2,x3,x4,hR,hp⟩; have H1:=HH.out.quiet g1; have hq:=table_gets (B:=w.heap.size + 1) (by omega) H1.second hR hp s hs HR.out; have ent:∀ (args:Array Value) (w:World),(callFunc x.gf args).run Tryz.prog w = .ok (.enter x.gf args) w:=hq.1; have hq2:=hq.2; clear hq hR hp)
    | (go_at_fn x.gf; (with_reducible refine hq2.mono ?_); rintro e wB ⟨rfl,g2,hz⟩; obtain ⟨A,n,cap,hX,hLn,hLo⟩:=hz (by trivial); have hR3:=but_blk H1.drop.drop.head g2 (by omega))
    | (with_reducible refine wpList_load_row rfl 37 (.tmp 6) rfl (w.heap.size + 1) rfl 37 #[.int .i64 v0,.int .u8 v1,.slice A n cap,.int .i64 v3,.int .i64 v4] (0,0) _ hX Tryz.underlying37 rfl (by kernel_rfl) ?_)
    | (with_reducible refine wpList_store_row rfl 37 (.tmp 4) (.tmp 18) rfl w.heap.size #[.int .i64 v0,.int .u8 v1,.slice A n cap,.int .i64 v3,.int .i64 v4] rfl rfl 37 #[.int .i64 0,.int .u8 0,.slice none 0 0,.int .i64 0,.int .i64 0] hR3 (by kernel_rfl) rfl (by simp [Value.oneCell']) ?_; obtain ⟨g6,h6⟩:=setRow_facts #[.int .i64 v0,.int .u8 v1,.slice A n cap,.int .i64 v3,.int .i64 v4] hR3))
   have hsz:wB.heap.size > w.heap.size:=by have:=g2.size; have:=(Array.getElem?_eq_some_iff.1 H1.drop.drop.head).1; omega
   have W5:Wider w wB:=g2.wider H1.wider (by intro i m; simp only [List.mem_singleton] at m; omega)
   have W6w:Wider w _:=g6.wider W5 (by intro i m; simp only [List.mem_singleton] at m; omega)
   have d100:=blk_cell h6 0 (v:=.int .i64 v0) rfl
   have d101:=blk_cell h6 1 (v:=.int .u8 v1) rfl
   have d102:=blk_cell h6 2 (v:=.slice A n cap) rfl
   have d103:=blk_cell h6 3 (v:=.int .i64 v3) rfl
   have d104:=blk_cell h6 4 (v:=.int .i64 v4) rfl
   simp [bodyPost,results,Tryz.results128,go_sem,d100,d101,d102,d103,d104]
   exact ⟨A,n,cap,by simp,W6w,hLn,ownsRow_less (b:=w.heap.size + 1 + 1) (ownsRow_heap hLo fun i hi => g6.heap i (hLo.lt i (by simpa using hi)).2 (by have:=(hLo.lt i (by simpa using hi)).1; simp; omega)) (by omega)⟩
 · have hzv:[ValN.num v0,ValN.num v1,ValN.lst L,ValN.num v3,ValN.num v4] = [ValN.num 0,ValN.num 0,ValN.lst [],ValN.num 0,ValN.num 0] ∧ (r = 3 ∨ r = 4):=by
    rcases HBAD.out with h | ⟨h1,h2⟩
    · exact absurd h r0
    · exact ⟨h1,h2⟩
   obtain ⟨hzv,_⟩:=hzv
   simp only [ValN.num.injEq,ValN.lst.injEq,List.cons.injEq,and_true] at hzv
   obtain ⟨rfl,rfl,rfl,rfl,rfl⟩:=hzv
   have d0:((r:Int) == 0) = false:=by rw [beq_eq_false_iff_ne]; omega
   go_enter Tryz.func128,Tryz.ntmps128
   go_wp2_with (first
    | (go_at_call 129; (with_reducible refine zs.mono ?_); rintro e wA ⟨x,rfl,g1,x0,x1,x2,x3,x4,hR,hp⟩; have H1:=HH.out.quiet g1; have hq:=table_gets (B:=w.heap.size + 1) (by omega) H1.second hR hp s hs HR.out; have ent:∀ (args:Array Value) (w:World),(callFunc x.gf args).run Tryz.prog w = .ok (.enter x.gf args) w:=hq.1; have hq2:=hq.2; clear hq hR hp)
    | (go_at_fn x.gf; (with_reducible refine hq2.mono ?_); rintro e wB ⟨rfl,g2,hz⟩; have hX:=but_blk H1.head g2 (by omega); have hR3:=but_blk H1.drop.drop.head g2 (by omega))
    | (with_reducible refine wpList_load_row rfl 37 (.tmp 7) rfl (w.heap.size + 1 + 1) rfl 37 #[.int .i64 0,.int .u8 0,.slice none 0 0,.int .i64 0,.int .i64 0] (0,0) _ hX Tryz.underlying37 rfl (by kernel_rfl) ?_)
    | (with_reducible refine wpList_store_row rfl 37 (.tmp 4) (.tmp 16) rfl w.heap.size #[.int .i64 0,.int .u8 0,.slice none 0 0,.int .i64 0,.int .i64 0] rfl rfl 37 #[.int .i64 0,.int .u8 0,.slice none 0 0,.int .i64 0,.int .i64 0] hR3 (by kernel_rfl) rfl (by simp [Value.oneCell']) ?_; obtain ⟨g6,h6⟩:=setRow_facts #[.int .i64 0,.int .u8 0,.slice none 0 0,.int .i64 0,.int .i64 0] hR3))
   have hsz:wB.heap.size > w.heap.size:=by have:=g2.size; have:=(Array.getElem?_eq_some_iff.1 H1.drop.drop.head).1; omega
   have W5:Wider w wB:=g2.wider H1.wider (by intro i m; simp only [List.mem_singleton] at m; omega)
   have W6w:Wider w _:=g6.wider W5 (by intro i m; simp only [List.mem_singleton] at m; omega)
   have d100:=blk_cell h6 0 (v:=.int .i64 0) rfl
   have d101:=blk_cell h6 1 (v:=.int .u8 0) rfl
   have d102:=blk_cell h6 2 (v:=.slice none 0 0) rfl
   have d103:=blk_cell h6 3 (v:=.int .i64 0) rfl
   have d104:=blk_cell h6 4 (v:=.int .i64 0) rfl
   simp [bodyPost,results,Tryz.results128,go_sem,d100,d101,d102,d103,d104]
   exact ⟨none,0,0,by simp,W6w,rfl,World.ownsRow_nil _ _ _ _⟩
theorem readTable_c (s:ByteArray) (w:World) (hs:s.size < 1000000) {v0:Int} {v1:Int} {v3:Int} {v4:Int} {L:List (List Int)} {r:Nat} (hr:decG csTable s.data.toList = ([ValN.num v0,ValN.num v1,ValN.lst L,ValN.num v3,ValN.num v4],r)) :
 Calls Tryz.prog 85 #[.string s] w fun e w' => ∃ (A:Option Addr) (n cap:Nat),e = .returned (.tuple #[.agg #[.int .i64 v0,.int .u8 v1,.slice A n cap,.int .i64 v3,.int .i64 v4],.int .i64 (r:Int)]) ∧ Wider w w' ∧ L.length = n ∧ w'.ownsRow w.heap.size 3 1 (.slice A n cap) n (cellsK ksKey L):=by
 have H:=(Own.nil (Wider.refl w)).blk #[.int .i64 0,.int .u8 0,.slice none 0 0,.int .i64 0,.int .i64 0] 37
 have zr:=rdTable_c s (w.alloc (.cells #[.int .i64 0,.int .u8 0,.slice none 0 0,.int .i64 0,.int .i64 0] 37)) hs hr
 have HH:=Lib.hid H
 clear hr H
 go_enter Tryz.func85,Tryz.ntmps85
 go_wp2_with (first
  | (go_at_call 128; (with_reducible refine zr.mono ?_); rintro e wB ⟨A,n,cap,rfl,g1,hLn,hLo⟩; have H1:=HH.out.quiet g1; have hR3:=H1.head)
  | (with_reducible refine wpList_store_row rfl 37 (.tmp 2) (.tmp 6) rfl w.heap.size #[.int .i64 v0,.int .u8 v1,.slice A n cap,.int .i64 v3,.int .i64 v4] rfl rfl 37 #[.int .i64 0,.int .u8 0,.slice none 0 0,.int .i64 0,.int .i64 0] hR3 (by kernel_rfl) rfl (by simp [Value.oneCell']) ?_; obtain ⟨g6,h6⟩:=setRow_facts #[.int .i64 v0,.int .u8 v1,.slice A n cap,.int .i64 v3,.int .i64 v4] hR3))
 have W6w:Wider w _:=g6.wider H1.wider (by intro i m; simp only [List.mem_singleton] at m; omega)
 have d100:=blk_cell h6 0 (v:=.int .i64 v0) rfl
 have d101:=blk_cell h6 1 (v:=.int .u8 v1) rfl
 have d102:=blk_cell h6 2 (v:=.slice A n cap) rfl
 have d103:=blk_cell h6 3 (v:=.int .i64 v3) rfl
 have d104:=blk_cell h6 4 (v:=.int .i64 v4) rfl
 simp [bodyPost,results,Tryz.results85,go_sem,d100,d101,d102,d103,d104]
 have hz:(w.alloc (.cells #[.int .i64 0,.int .u8 0,.slice none 0 0,.int .i64 0,.int .i64 0] 37)).heap.size = w.heap.size + 1:=by simp
 exact ⟨A,n,cap,by simp,W6w,hLn,ownsRow_less (ownsRow_heap hLo fun i hi => g6.heap i (hLo.lt i (by simpa using hi)).2 (by have:=(hLo.lt i (by simpa using hi)).1; simp; omega)) (by omega)⟩
def RepTable (w:World) (c:Array Value) (vs:List ValN):Prop :=
 ∃ (v0 v1 v3 v4:Int) (A:Option Addr) (n cap:Nat) (L:List (List Int)),c = #[.int .i64 v0,.int .u8 v1,.slice A n cap,.int .i64 v3,.int .i64 v4] ∧ vs = [ValN.num v0,ValN.num v1,ValN.lst L,ValN.num v3,ValN.num v4] ∧ (Lit.int .i64 v0).wf = true ∧ (Lit.int .u8 v1).wf = true ∧ (Lit.int .i64 v3).wf = true ∧ (Lit.int .i64 v4).wf = true ∧ RowAt w A 1 (rowsK ksKey L) ∧ L.length = n ∧ n < 1000000 ∧ ∀ x ∈ L,wfK ksKey x
theorem RepTable.on {W w:World} {c:Array Value} {vs:List ValN} (h:RepTable W c vs) (g:Wider W w):RepTable w c vs:=by
 obtain ⟨v0,v1,v3,v4,A,n,cap,L,rfl,rfl,w0,w1,w3,w4,hA,hn,hn9,hL⟩:=h
 exact ⟨v0,v1,v3,v4,A,n,cap,L,rfl,rfl,w0,w1,w3,w4,hA.on g,hn,hn9,hL⟩
theorem RepTable.size {w:World} {c:Array Value} {vs:List ValN} (h:RepTable w c vs):c.size = 5:=by
 obtain ⟨v0,v1,v3,v4,A,n,cap,L,rfl,rfl,w0,w1,w3,w4,hA,hn,hn9,hL⟩:=h
 rfl
theorem RepTable.put {w:World} {c:Array Value} {vs:List ValN} (h:RepTable w c vs) {T:ByteArray} {r:Nat} (hr:PutG csTable vs T r) :
 Calls Tryz.prog 114 #[.agg c] w fun e w' => e = .returned (.tuple #[.string T,.int .i64 (r:Int)]) ∧ Wider w w':=by
 obtain ⟨v0,v1,v3,v4,A,n,cap,L,rfl,rfl,w0,w1,w3,w4,hA,hn,hn9,hL⟩:=h
 exact putTable_c w (w0:=w0) (w1:=w1) (w3:=w3) (w4:=w4) (hA:=hA) (hn:=hn) (hn9:=hn9) (hL:=hL) hr
theorem repTable_read (s:ByteArray) (w:World) (hs:s.size < 1000000) {vs:List ValN} {r:Nat} (hr:decG csTable s.data.toList = (vs,r)) :
 Calls Tryz.prog 85 #[.string s] w fun e w' => ∃ c,e = .returned (.tuple #[.agg c,.int .i64 (r:Int)]) ∧ Wider w w' ∧ ∀ W,Keeps w.heap.size w' W → RepTable W c vs:=by
 have ok:=okG_dec csTable hr
 match vs,ok with
 | [a0,a1,a2,a3,a4],ok =>
   obtain ⟨⟨v0,rfl,q0⟩,⟨v1,rfl,q1⟩,⟨L,rfl,hL1,hL2⟩,⟨v3,rfl,q3⟩,⟨v4,rfl,q4⟩,_⟩:=ok
   refine (readTable_c s w hs hr).mono ?_
   rintro e w1 ⟨A,n,cap,rfl,g,hn,hO⟩
   exact ⟨_,rfl,g,fun W kW => ⟨v0,v1,v3,v4,A,n,cap,L,rfl,rfl,wf_i64 (by have q:=q0; exact ⟨q.1,Int.le_trans q.2 (by decide)⟩),wf_u8 (by have q:=q1; exact ⟨q.1,Int.le_trans q.2 (by decide)⟩),wf_i64 (by have q:=q3; exact ⟨q.1,Int.le_trans q.2 (by decide)⟩),wf_i64 (by have q:=q4; exact ⟨q.1,Int.le_trans q.2 (by decide)⟩),rowK_own (ks:=ksKey) rfl (by decide) hn (fun x hx => lenKey x (hL2 x hx)) (ownsRow_heap hO fun i hi => kW.2 i (hO.lt i (by simpa using hi)).1 (hO.lt i (by simpa using hi)).2),hn,by omega,fun x hx => wfKey (hL2 x hx)⟩⟩
end Go.Proofs.YtoopdhgmdjienaaGreatDoor
