/- ORdBlock ORepBlock OListBucket -/
import Derived.Test.YtoopdhgmdjienaaGreatDoorPkR20
import Derived.Test.YtoopdhgmdjienaaGreatDoorPkR14
namespace Go.Proofs.YtoopdhgmdjienaaGreatDoor
set_option linter.unusedVariables false
set_option maxRecDepth 20000
open Go.ChangeShapes Go.WideShapes Go.ChangeAt Go.RowKit Go.Joins
open Go.ChangeMaps (open_string shut_string)
set_option maxHeartbeats 64000000
theorem block_gets {W:World} {x:FnP} {B b0:Nat} (hb:B < b0) (hB:W.heap[B]? = some (.cells #[.int .i64 0,.slice none 0 0] 42 (0,0)))
 {x0 x1:FnP} (hR:RecAt b0 W x [x0,x1]) (hp:NumP .i64 2147483647 (by decide) b0 W x0 (⟨B,0,none⟩ : Addr) ∧ PartV lCode (inL ksInstr) (relL 66 7 ksInstr) b0 W x1 (⟨B,0 + 1,none⟩ : Addr)) (s:ByteArray) (hs:s.size < 1000000) {v0:Int} {L:List (List Int)} {r:Nat} (hr:decG csBlock s.data.toList = ([ValN.num v0,ValN.lst L],r)) :
 Enters Tryz.prog x.gf ∧ Calls Tryz.prog x.gf (#[.string s] ++ x.gc) W fun e w' => e = .returned (.int .i64 (r:Int)) ∧ WBut [B] W w' ∧ (r = 0 → ∃ (A:Option Addr) (n cap:Nat),w'.heap[B]? = some (.cells #[.int .i64 v0,.slice A n cap] 42 (0,0)) ∧ L.length = n ∧ w'.ownsRow (B + 1) 66 7 (.slice A n cap) n (cellsK ksInstr L)):=by
 obtain ⟨h0,h1⟩:=hp
 have k:=recget_c (B:=B) hR (cs:=csBlock) (os:=[0,1]) (Rs:=[relV .i64,relL 66 7 ksInstr]) rfl rfl rfl (by decide) (by
  intro R hR
  simp only [List.mem_cons,List.not_mem_nil,or_false] at hR
  rcases hR with rfl | rfl
  · exact relV_S _
  · exact relL_S _ _ _
  ) (by decide) (fun k p c o R e1 e2 e3 e4 => by
  match k,e1,e2,e3,e4 with
  | 0,e1,e2,e3,e4 =>
    simp [csBlock] at e1 e2 e3 e4
    subst e1 e2 e3 e4
    exact h0.part.get
  | 1,e1,e2,e3,e4 =>
    simp [csBlock] at e1 e2 e3 e4
    subst e1 e2 e3 e4
    exact h1.get
  | k + 2,e1,e2,e3,e4 => simp at e1) hb
 refine ⟨k.1,(k.2 W _ _ (Keeps.refl _ _) hB (by decide) ?_ s hs _ r hr).mono ?_⟩
 · intro k o R y e1 e2 e3
   match k,e1,e2,e3 with
   | 0,e1,e2,e3 =>
     simp [csBlock,zeroG] at e1 e2 e3
     subst e1 e2 e3
     exact ⟨_,rfl,0,rfl,rfl⟩
   | 1,e1,e2,e3 =>
     simp [csBlock,zeroG] at e1 e2 e3
     subst e1 e2 e3
     exact ⟨_,rfl,none,0,0,[],rfl,rfl,rfl,World.ownsRow_nil _ _ _ _⟩
   | k + 2,e1,e2,e3 => simp at e1
 · rintro e w3 ⟨rfl,g3,h⟩
   refine ⟨rfl,g3,fun h0 => ?_⟩
   obtain ⟨C',hC,hs',_,hst⟩:=h h0
   obtain ⟨u0,hu0,hv0⟩:=hst 0 0 _ _ rfl rfl rfl
   obtain ⟨n0,q0,rfl⟩:=hv0
   injection q0 with q0
   subst q0
   obtain ⟨u1,hu1,hv1⟩:=hst 1 1 _ _ rfl rfl rfl
   obtain ⟨A,n,cap,L2,rfl,qL,hLn,hLo⟩:=hv1
   injection qL with qL
   subst qL
   have e:C' = #[.int .i64 v0,.slice A n cap]:=by
    refine arr_of hs' fun i hi => ?_
    have hi:i < 2:=hi
    match i,hi with
    | 0,_ => exact hu0
    | 1,_ => exact hu1
    | i + 2,h => omega
   subst e
   exact ⟨A,n,cap,hC,hLn,hLo⟩
theorem rdBlock_c (s:ByteArray) (w:World) (hs:s.size < 1000000) {v0:Int} {L:List (List Int)} {r:Nat} (hr:decG csBlock s.data.toList = ([ValN.num v0,ValN.lst L],r)) :
 Calls Tryz.prog 132 #[.string s,.func (.func 133) #[] #[]] w fun e w' => ∃ (A:Option Addr) (n cap:Nat),e = .returned (.tuple #[.agg #[.int .i64 v0,.slice A n cap],.int .i64 (r:Int)]) ∧ Wider w w' ∧ L.length = n ∧ w'.ownsRow w.heap.size 66 7 (.slice A n cap) n (cellsK ksInstr L):=by
 have H:=(((Own.nil (Wider.refl w)).blk #[.int .i64 0,.slice none 0 0] 42).blk #[.int .i64 0,.slice none 0 0] 42).blk #[.int .i64 0,.slice none 0 0] 42
 have z1:(w.alloc (.cells #[.int .i64 0,.slice none 0 0] 42)).heap.size = w.heap.size + 1:=by simp
 have z2:((w.alloc (.cells #[.int .i64 0,.slice none 0 0] 42)).alloc (.cells #[.int .i64 0,.slice none 0 0] 42)).heap.size = w.heap.size + 2:=by simp
 rw [z1,z2] at H
 have z3:(((w.alloc (.cells #[.int .i64 0,.slice none 0 0] 42)).alloc (.cells #[.int .i64 0,.slice none 0 0] 42)).alloc (.cells #[.int .i64 0,.slice none 0 0] 42)).heap.size = w.heap.size + 3:=by simp
 have zs:=block_s (((w.alloc (.cells #[.int .i64 0,.slice none 0 0] 42)).alloc (.cells #[.int .i64 0,.slice none 0 0] 42)).alloc (.cells #[.int .i64 0,.slice none 0 0] 42)) ⟨w.heap.size + 1,0,none⟩
 rw [z3] at zs
 have hbad:=decG_bad csBlock s.data.toList
 rw [hr] at hbad
 have hfg:=fld_get
 have HR:=Lib.hid hr
 have HBAD:=Lib.hid hbad
 have HH:=Lib.hid H
 clear z1 z2 z3 hr hbad H
 by_cases r0:r = 0
 · subst r0
   go_enter Tryz.func132,Tryz.ntmps132
   go_wp2_with (first
    | (go_at_call 133; (with_reducible refine zs.mono ?_); rintro e wA ⟨x,rfl,g1,x0,x1,hR,hp⟩; have H1:=HH.out.quiet g1; have hq:=block_gets (B:=w.heap.size + 1) (by omega) H1.second hR hp s hs HR.out; have ent:∀ (args:Array Value) (w:World),(callFunc x.gf args).run Tryz.prog w = .ok (.enter x.gf args) w:=hq.1; have hq2:=hq.2; clear hq hR hp)
    | (go_at_fn x.gf; (with_reducible refine hq2.mono ?_); rintro e wB ⟨rfl,g2,hz⟩; obtain ⟨A,n,cap,hX,hLn,hLo⟩:=hz (by trivial); have hR3:=but_blk H1.drop.drop.head g2 (by omega))
    | (with_reducible refine wpList_load_row rfl 42 (.tmp 6) rfl (w.heap.size + 1) rfl 42 #[.int .i64 v0,.slice A n cap] (0,0) _ hX Tryz.underlying42 rfl (by kernel_rfl) ?_)
    | (with_reducible refine wpList_store_row rfl 42 (.tmp 4) (.tmp 18) rfl w.heap.size #[.int .i64 v0,.slice A n cap] rfl rfl 42 #[.int .i64 0,.slice none 0 0] hR3 (by kernel_rfl) rfl (by simp [Value.oneCell']) ?_; obtain ⟨g6,h6⟩:=setRow_facts #[.int .i64 v0,.slice A n cap] hR3))
   have hsz:wB.heap.size > w.heap.size:=by have:=g2.size; have:=(Array.getElem?_eq_some_iff.1 H1.drop.drop.head).1; omega
   have W5:Wider w wB:=g2.wider H1.wider (by intro i m; simp only [List.mem_singleton] at m; omega)
   have W6w:Wider w _:=g6.wider W5 (by intro i m; simp only [List.mem_singleton] at m; omega)
   have d100:=blk_cell h6 0 (v:=.int .i64 v0) rfl
   have d101:=blk_cell h6 1 (v:=.slice A n cap) rfl
   simp [bodyPost,results,Tryz.results132,go_sem,d100,d101]
   exact ⟨A,n,cap,by simp,W6w,hLn,ownsRow_less (b:=w.heap.size + 1 + 1) (ownsRow_heap hLo fun i hi => g6.heap i (hLo.lt i (by simpa using hi)).2 (by have:=(hLo.lt i (by simpa using hi)).1; simp; omega)) (by omega)⟩
 · have hzv:[ValN.num v0,ValN.lst L] = [ValN.num 0,ValN.lst []] ∧ (r = 3 ∨ r = 4):=by
    rcases HBAD.out with h | ⟨h1,h2⟩
    · exact absurd h r0
    · exact ⟨h1,h2⟩
   obtain ⟨hzv,_⟩:=hzv
   simp only [ValN.num.injEq,ValN.lst.injEq,List.cons.injEq,and_true] at hzv
   obtain ⟨rfl,rfl⟩:=hzv
   have d0:((r:Int) == 0) = false:=by rw [beq_eq_false_iff_ne]; omega
   go_enter Tryz.func132,Tryz.ntmps132
   go_wp2_with (first
    | (go_at_call 133; (with_reducible refine zs.mono ?_); rintro e wA ⟨x,rfl,g1,x0,x1,hR,hp⟩; have H1:=HH.out.quiet g1; have hq:=block_gets (B:=w.heap.size + 1) (by omega) H1.second hR hp s hs HR.out; have ent:∀ (args:Array Value) (w:World),(callFunc x.gf args).run Tryz.prog w = .ok (.enter x.gf args) w:=hq.1; have hq2:=hq.2; clear hq hR hp)
    | (go_at_fn x.gf; (with_reducible refine hq2.mono ?_); rintro e wB ⟨rfl,g2,hz⟩; have hX:=but_blk H1.head g2 (by omega); have hR3:=but_blk H1.drop.drop.head g2 (by omega))
    | (with_reducible refine wpList_load_row rfl 42 (.tmp 7) rfl (w.heap.size + 1 + 1) rfl 42 #[.int .i64 0,.slice none 0 0] (0,0) _ hX Tryz.underlying42 rfl (by kernel_rfl) ?_)
    | (with_reducible refine wpList_store_row rfl 42 (.tmp 4) (.tmp 16) rfl w.heap.size #[.int .i64 0,.slice none 0 0] rfl rfl 42 #[.int .i64 0,.slice none 0 0] hR3 (by kernel_rfl) rfl (by simp [Value.oneCell']) ?_; obtain ⟨g6,h6⟩:=setRow_facts #[.int .i64 0,.slice none 0 0] hR3))
   have hsz:wB.heap.size > w.heap.size:=by have:=g2.size; have:=(Array.getElem?_eq_some_iff.1 H1.drop.drop.head).1; omega
   have W5:Wider w wB:=g2.wider H1.wider (by intro i m; simp only [List.mem_singleton] at m; omega)
   have W6w:Wider w _:=g6.wider W5 (by intro i m; simp only [List.mem_singleton] at m; omega)
   have d100:=blk_cell h6 0 (v:=.int .i64 0) rfl
   have d101:=blk_cell h6 1 (v:=.slice none 0 0) rfl
   simp [bodyPost,results,Tryz.results132,go_sem,d100,d101]
   exact ⟨none,0,0,by simp,W6w,rfl,World.ownsRow_nil _ _ _ _⟩
theorem readBlock_c (s:ByteArray) (w:World) (hs:s.size < 1000000) {v0:Int} {L:List (List Int)} {r:Nat} (hr:decG csBlock s.data.toList = ([ValN.num v0,ValN.lst L],r)) :
 Calls Tryz.prog 87 #[.string s] w fun e w' => ∃ (A:Option Addr) (n cap:Nat),e = .returned (.tuple #[.agg #[.int .i64 v0,.slice A n cap],.int .i64 (r:Int)]) ∧ Wider w w' ∧ L.length = n ∧ w'.ownsRow w.heap.size 66 7 (.slice A n cap) n (cellsK ksInstr L):=by
 have H:=(Own.nil (Wider.refl w)).blk #[.int .i64 0,.slice none 0 0] 42
 have zr:=rdBlock_c s (w.alloc (.cells #[.int .i64 0,.slice none 0 0] 42)) hs hr
 have HH:=Lib.hid H
 clear hr H
 go_enter Tryz.func87,Tryz.ntmps87
 go_wp2_with (first
  | (go_at_call 132; (with_reducible refine zr.mono ?_); rintro e wB ⟨A,n,cap,rfl,g1,hLn,hLo⟩; have H1:=HH.out.quiet g1; have hR3:=H1.head)
  | (with_reducible refine wpList_store_row rfl 42 (.tmp 2) (.tmp 6) rfl w.heap.size #[.int .i64 v0,.slice A n cap] rfl rfl 42 #[.int .i64 0,.slice none 0 0] hR3 (by kernel_rfl) rfl (by simp [Value.oneCell']) ?_; obtain ⟨g6,h6⟩:=setRow_facts #[.int .i64 v0,.slice A n cap] hR3))
 have W6w:Wider w _:=g6.wider H1.wider (by intro i m; simp only [List.mem_singleton] at m; omega)
 have d100:=blk_cell h6 0 (v:=.int .i64 v0) rfl
 have d101:=blk_cell h6 1 (v:=.slice A n cap) rfl
 simp [bodyPost,results,Tryz.results87,go_sem,d100,d101]
 have hz:(w.alloc (.cells #[.int .i64 0,.slice none 0 0] 42)).heap.size = w.heap.size + 1:=by simp
 exact ⟨A,n,cap,by simp,W6w,hLn,ownsRow_less (ownsRow_heap hLo fun i hi => g6.heap i (hLo.lt i (by simpa using hi)).2 (by have:=(hLo.lt i (by simpa using hi)).1; simp; omega)) (by omega)⟩
def RepBlock (w:World) (c:Array Value) (vs:List ValN):Prop :=
 ∃ (v0:Int) (A:Option Addr) (n cap:Nat) (L:List (List Int)),c = #[.int .i64 v0,.slice A n cap] ∧ vs = [ValN.num v0,ValN.lst L] ∧ (Lit.int .i64 v0).wf = true ∧ RowAt w A 7 (rowsK ksInstr L) ∧ L.length = n ∧ n < 1000000 ∧ ∀ x ∈ L,wfK ksInstr x
theorem RepBlock.on {W w:World} {c:Array Value} {vs:List ValN} (h:RepBlock W c vs) (g:Wider W w):RepBlock w c vs:=by
 obtain ⟨v0,A,n,cap,L,rfl,rfl,w0,hA,hn,hn9,hL⟩:=h
 exact ⟨v0,A,n,cap,L,rfl,rfl,w0,hA.on g,hn,hn9,hL⟩
theorem RepBlock.size {w:World} {c:Array Value} {vs:List ValN} (h:RepBlock w c vs):c.size = 2:=by
 obtain ⟨v0,A,n,cap,L,rfl,rfl,w0,hA,hn,hn9,hL⟩:=h
 rfl
theorem RepBlock.put {w:World} {c:Array Value} {vs:List ValN} (h:RepBlock w c vs) {T:ByteArray} {r:Nat} (hr:PutG csBlock vs T r) :
 Calls Tryz.prog 116 #[.agg c] w fun e w' => e = .returned (.tuple #[.string T,.int .i64 (r:Int)]) ∧ Wider w w':=by
 obtain ⟨v0,A,n,cap,L,rfl,rfl,w0,hA,hn,hn9,hL⟩:=h
 exact putBlock_c w (w0:=w0) (hA:=hA) (hn:=hn) (hn9:=hn9) (hL:=hL) hr
theorem lputBucket_c {w:World} {X M S:Nat} {q:Addr} (hx:w.heap[X]? = some (.cells #[.pointer (some q)] 235 (0,0))) (hm:w.heap[M]? = some (.cells #[.int .i64 16] 3 (0,0))) (hs:w.heap[S]? = some (.cells #[.func (.func 175) #[] #[]] 236 (0,0)))
 {A:Option Addr} {n cap:Nat} {L:List (List Int)} (hc:w.cell? q = some (.slice A n cap)) (hA:RowAt w A 2 (rowsK ksBucket L)) (hn:L.length = n) (hn9:n < 1000000) (hw:∀ x ∈ L,wfK ksBucket x) {T:ByteArray} {r:Nat} (hr:PutR lBuckets (.lst L) T r) :
 Calls Tryz.prog 200 #[.pointer (some ⟨X,0,none⟩),.pointer (some ⟨M,0,none⟩),.pointer (some ⟨S,0,none⟩)] w fun e w' => e = .returned (.tuple #[.string T,.int .i64 (r:Int)]) ∧ Wider w w':=by
 have c1:=blk_cell hx 0 (v:=.pointer (some q)) rfl
 have c2:=blk_cell hm 0 (v:=.int .i64 16) rfl
 have c3:=blk_cell hs 0 (v:=.func (.func 175) #[] #[]) rfl
 have hok:lBuckets.ok (.lst L) ↔ L.length ≤ 16 ∧ ∀ x ∈ L,cBucket.ok x:=lst_okN
 clear hx hm hs
 by_cases big:16 < n
 · obtain ⟨rfl,rfl⟩ : T = ⟨#[]⟩ ∧ r = 3:=by
    rcases hr with ⟨h,_,_⟩ | ⟨_,h2,h3⟩
    · have:=(hok.1 h).1; omega
    · exact ⟨h2,h3⟩
   have d1:decide ((16:Int) < (n:Int)) = true:=decide_eq_true (by omega)
   have d2:decide (16 < n) = true:=decide_eq_true big
   clear hr hok hw hA hn
   go_enter Tryz.func200,Tryz.ntmps200
   go_wp2
   go_region
   all_goals
    go_wp2
    go_ret2
    exact ⟨rfl,Wider.refl _⟩
 · have d1:decide ((16:Int) < (n:Int)) = false:=decide_eq_false (by omega)
   have d2:decide (16 < n) = false:=decide_eq_false big
   have HR:=Lib.hid hr
   have HOK:=Lib.hid hok
   have HN:=Lib.hid hn
   have HW:=Lib.hid hw
   have H0:=(Own.nil (Wider.refl w)).bare 9 1
   have HL:Hid (n ≤ 16):=by show _ ≤ _; omega
   obtain ⟨i0,hi,hz0,hz1,hz2⟩:=info_parts infoS
   have hfp:=fld_put
   have hfg:=fld_get
   clear hr hok hn hw
   go_enter Tryz.func200,Tryz.ntmps200
   go_wp2
   go_quiet (fail)
   · have G0:Wider w (w.drewN nq):=Wider.refl w
     have H0d:=H0.quiet G0
     have e1:=wkeep G0 c1
     have e3:=wkeep G0 hc
     go_wp2
     go_loopw [5,19] (fun l i wr => ∃ k:Nat,k ≤ n ∧ i = .int .i64 (k:Int) ∧ ∃ B c,l = .slice B k c ∧ Own w wr [rowT 9 1 (.slice B k c) k (cellsS ((L.take k).map cBucket.enc))] ∧ Hid (∀ x ∈ L.take k,cBucket.ok x)) (fun _ i _ => n - (intOf i).toNat)
     case atStart => exact ⟨0,by omega,by simp,none,0,rfl,H0d,by intro x hx; simp at hx⟩
     case round =>
      obtain ⟨k,hk,rfl,B,c,rfl,H,HO⟩:=hrel
      clear H0 H0d
      by_cases ck:k < n
      · have j0:(0:Int) ≤ (k:Int):=by omega
        have j1:(k:Int) < (n:Int):=by omega
        obtain ⟨y,hy⟩:=next_some L k (by rw [HN.out]; exact ck)
        cases A with
        | none => exact absurd (hA.none_ rfl) (by intro e; have q:=rowsK_at (ks:=ksBucket) hy; rw [e] at q; simp at q)
        | some a =>
          have hcy:∀ i v,(List.zipWith Value.int ksBucket y)[i]? = some v → w.cell? ((a.add (k * 2)).add i) = some v:=by
           have q:=(hA.cell a rfl k _ (rowsK_at hy)).2
           simpa using q
          have wy:wfK ksBucket y:=HW.out y (List.mem_of_getElem? hy)
          have c1w:=wkeep H.wider c1
          have c3w:=wkeep H.wider c3
          have hcw:=wkeep H.wider hc
          have zi:=fun W:World => bucket_i W (a.add (k * 2))
          have HCY:=Lib.hid hcy
          have HY:=Lib.hid hy
          clear hcy hy hA
          by_cases ok:cBucket.ok y
          · obtain ⟨s,hse⟩ : ∃ s,cBucket.enc y = s:=⟨_,rfl⟩
            have HPR:Hid (PutR cBucket y s 0):=.inl ⟨ok,hse.symm,rfl⟩
            have SN:Hid (cellsS ((L.take k).map cBucket.enc) ++ [.string s] = cellsS ((L.take (k + 1)).map cBucket.enc)):=by show _ = _; rw [take_next L k y HY.out,List.map_append,cellsS_append,← hse]; rfl
            have HO2:Hid (∀ x ∈ L.take (k + 1),cBucket.ok x):=allL_take L k y _ HY.out HO.out ok
            have S3:Hid (k + 1 ≤ maxLen):=by show _ ≤ maxLen; unfold maxLen; omega
            have S4:Hid ((k + 1) * 16 ≤ 140737488355328):=by show _ ≤ _; omega
            clear ok hse HO
            go_upto_region 7 with (fail)
            go_region_law (first
             | (go_simp; go_at_call 175; (with_reducible refine (zi _).mono ?_); rintro e w1 ⟨x,rfl,g1,h1⟩; have hq:=h1.put w1 (Keeps.refl _ _) y wy (fun i v hv => wkeep (H.wider.trans ((Wider.refl wr).drew.trans g1)) (HCY.out i v hv)) s 0 HPR.out; have ent:∀ (args:Array Value) (w:World),(callFunc x.pf args).run Tryz.prog w = .ok (.enter x.pf args) w:=hq.1; have hq2:=hq.2 w1 (Wider.refl _); have H1:=H.quiet ((Wider.refl wr).drew.trans g1); clear hq h1)
             | (go_simp; go_at_fn x.pf; (with_reducible refine hq2.mono ?_); rintro e w2 ⟨rfl,g2⟩; have H2:=(H1.quiet g2).quiet ((Wider.refl w2).alloc (.cells #[.string s] 9)); have SIDE:=lies1 w2 (.string s) 9 rfl; have H4:=Lib.hid H2; have SD:=Lib.hid SIDE; clear H2 SIDE))
            all_goals
             go_wp2_with (first
              | (at_builtin; refine wpList_append_thing rfl (.tmp 37) (.tmp 39) 152 rfl 9 i0 (.string ⟨#[]⟩) 1 16 Tryz.underlying152 hi hz0 hz1 hz2 rfl (by decide) (.slice B k c) k (cellsS ((L.take k).map cBucket.enc)) rfl H4.out (some ⟨w2.heap.size,0,none⟩) 1 1 [.string s] rfl rfl (fun e => by cases e) (fun a e => by cases e; exact SD.out.1) SD.out.2 S3.out S4.out rfl SN.out ?_; intro B2 c2 w5 H5))
             go_roundw
             case rel => exact ⟨k + 1,by omega,by go_num,B2,c2,rfl,H5,HO2⟩
             case measure => simp [intOf]; omega
          · obtain ⟨rfl,rfl⟩ : T = ⟨#[]⟩ ∧ r = 3:=by
             rcases HR.out with ⟨h,_,_⟩ | ⟨_,h2,h3⟩
             · exact absurd ((HOK.out.1 h).2 y (List.mem_of_getElem? HY.out)) ok
             · exact ⟨h2,h3⟩
            have HPR:Hid (PutR cBucket y ⟨#[]⟩ 3):=.inr ⟨ok,rfl,rfl⟩
            clear ok HO
            go_upto_region 7 with (fail)
            go_region_law (first
             | (go_simp; go_at_call 175; (with_reducible refine (zi _).mono ?_); rintro e w1 ⟨x,rfl,g1,h1⟩; have hq:=h1.put w1 (Keeps.refl _ _) y wy (fun i v hv => wkeep (H.wider.trans ((Wider.refl wr).drew.trans g1)) (HCY.out i v hv)) ⟨#[]⟩ 3 HPR.out; have ent:∀ (args:Array Value) (w:World),(callFunc x.pf args).run Tryz.prog w = .ok (.enter x.pf args) w:=hq.1; have hq2:=hq.2 w1 (Wider.refl _); have H1:=H.quiet ((Wider.refl wr).drew.trans g1); clear hq h1)
             | (go_simp; go_at_fn x.pf; (with_reducible refine hq2.mono ?_); rintro e w2 ⟨rfl,g2⟩))
            all_goals
             go_wp2
             go_ret2
             exact ⟨rfl,(H1.quiet g2).wider⟩
      · obtain rfl:k = n:=by omega
        have hO:=HO.out
        have hl:=H.strs
        rw [List.take_of_length_le (by rw [HN.out]; exact Nat.le_refl _)] at hO hl
        obtain ⟨hT,rfl⟩ : T = encT (L.map cBucket.enc) ∧ r = 0:=by
         rcases HR.out with ⟨_,h2,h3⟩ | ⟨h,_,_⟩
         · exact ⟨h2,h3⟩
         · exact absurd (HOK.out.2 ⟨by have:=HN.out; have:=HL.out; omega,hO⟩) h
        have hq:=HN.out
        have hb9:=HL.out
        have zt:=tlist_a B k c (L.map cBucket.enc) wr hl (by simp [hq]) (by omega) (items_small (c:=cBucket) rfl hO (by decide) (by omega)) (T:=T) (r:=0) hT.symm (items_ok (c:=cBucket) rfl hO (by decide))
        clear hl hO hT hq hb9 HO
        go_wp2_with (go_at_call 157; ((with_reducible refine zt.mono ?_); rintro e w3 ⟨rfl,g3⟩))
        go_ret2
        exact ⟨rfl,H.wider.trans g3⟩
theorem infoBucket:(Tryz.prog.info? 150).map (fun i => (i.zero,i.size,i.bytes)) = some (some (.agg #[.int .u64 0,.int .i64 0]),2,16):=by kernel_rfl
theorem makeBucket (n:Nat) (hn:n < 1000000) (w:World):(Instr.makeSlice 43 (.int .i64 (n:Int)) (.int .i64 (n:Int))).run Tryz.prog w = .ok (.slice (some ⟨w.heap.size,0,none⟩) n n) (w.alloc (.cells (madeCells #[.int .u64 0,.int .i64 0] (n * 2)) 150)):=by
 obtain ⟨i0,hi,hz0,hz1,hz2⟩:=info_parts infoBucket
 have h:=run_make (P:=Tryz.prog) (w:=w) 43 150 i0 (.agg #[.int .u64 0,.int .i64 0]) Tryz.underlying43 hi hz0 .i64 .i64 (n:Int) (n:Int) (by omega) (by omega) (by rw [hz2]; omega) (by omega)
 rw [hz1,Int.toNat_natCast] at h
 exact h
theorem lenBucket:∀ x,cBucket.ok x → x.length = ksBucket.length:=by
 intro x h
 exact okG_length _ _ h
theorem lgetBucket_c {w:World} {X M S B j:Nat} {C:Array Value} {t:TypeId} (hx:w.heap[X]? = some (.cells #[.pointer (some ⟨B,j,none⟩)] 235 (0,0))) (hm:w.heap[M]? = some (.cells #[.int .i64 16] 3 (0,0))) (hs:w.heap[S]? = some (.cells #[.func (.func 175) #[] #[]] 236 (0,0)))
 (hX:X ≠ B) (hS:S ≠ B) (hB:w.heap[B]? = some (.cells C t (0,0))) (hj:j < C.size) (s:ByteArray) (hs9:s.size < 1000000) :
 Calls Tryz.prog 201 #[.string s,.pointer (some ⟨M,0,none⟩),.pointer (some ⟨X,0,none⟩),.pointer (some ⟨S,0,none⟩)] w fun e w' => ∃ r:Nat,e = .returned (.int .i64 (r:Int)) ∧ WBut [B] w w' ∧ ((∃ y,lBuckets.dec s = some y ∧ r = 0 ∧ ∃ u,relL 150 2 ksBucket B w' u y ∧ w'.heap[B]? = some (.cells (C.setIfInBounds j u) t (0,0))) ∨ (lBuckets.dec s = none ∧ r ≠ 0)):=by
 obtain ⟨m,c,hd⟩ : ∃ m c,decT [] 16 s.data.toList = (m,c):=⟨_,_,rfl⟩
 obtain ⟨nm,hnm⟩ : ∃ nm,m.length = nm:=⟨_,rfl⟩
 have zd:=fun W:World => treadlist_o s 16 16 rfl W hs9 (by decide) hd hnm
 have hBl:B < w.heap.size:=(Array.getElem?_eq_some_iff.1 hB).1
 have c2:=blk_cell hm 0 (v:=.int .i64 16) rfl
 by_cases c0:c = 0
 · subst c0
   have hmost:nm ≤ 16:=by have q:=decT_most (most:=16) hd; rw [hnm] at q; exact q
   have hnm9:nm < 1000000:=by omega
   have hmk:=makeBucket nm hnm9
   have HX:=Lib.hid hx
   have HSS:=Lib.hid hs
   have HB:=Lib.hid hB
   have HN:=Lib.hid hnm
   have HD:=Lib.hid hd
   have hfp:=fld_put
   have hfg:=fld_get
   clear hx hs hd hnm hm hmost
   go_enter Tryz.func201,Tryz.ntmps201
   go_wp2_with (go_at_call 123; ((with_reducible refine (zd _).mono ?_); rintro e w2 ⟨A,cp,rfl,g2,h2⟩; have HO:=Lib.hid h2; have HG:=Lib.hid g2; have x2:=blk_cell (wide_blk HX.out g2) 0 (v:=.pointer (some ⟨B,j,none⟩)) rfl; have HB2:=Lib.hid (wide_blk HB.out g2); clear h2 g2))
   clear zd c2
   obtain ⟨old,hold⟩:=blk_some HB2.out hj
   have fr:=blk_free HB2.out j
   have x2a:∀ o:Obj,(w2.alloc o).cell? ⟨X,0,none⟩ = some (.pointer (some ⟨B,j,none⟩)):=fun o => kalloc x2
   have h2a:∀ o:Obj,(w2.alloc o).cell? ⟨B,j,none⟩ = some old:=fun o => kalloc hold
   have f2a:∀ o:Obj,(w2.alloc o).frozen? ⟨B,j,none⟩ = false:=fun o => blk_free (wide_blk HB2.out ((Wider.refl w2).alloc o)) j
   have hBs:B < w2.heap.size:=Nat.lt_of_lt_of_le hBl HG.out.2
   have KM:∀ (W:World),(W.alloc (.cells (madeCells #[.int .u64 0,.int .i64 0] (nm * 2)) 150)).heap[W.heap.size]? = some (.cells (madeCells #[.int .u64 0,.int .i64 0] (nm * 2)) 150 (0,0)):=fun W => heap_alloc_new W _
   go_upto_region 4 with (fail)
   have SZ:∀ a v,(w2.setCell a v).heap.size = w2.heap.size:=fun a v => by simp [World.setCell]
   have FIN:∀ (v:Value) (o:Obj),WBut [B] w2 ((w2.setCell ⟨B,j,none⟩ v).alloc o).drew ∧ ((w2.setCell ⟨B,j,none⟩ v).alloc o).drew.heap[B]? = some (.cells (C.setIfInBounds j v) t (0,0)) ∧ ((w2.setCell ⟨B,j,none⟩ v).alloc o).drew.heap[w2.heap.size]? = some o:=fun v o => ⟨(setCell_but w2 ⟨B,j,none⟩ v).thenW (((Wider.refl _).alloc o).drew),wide_blk (set_blk v HB2.out) (((Wider.refl _).alloc o).drew),by have q:=heap_alloc_new (w2.setCell ⟨B,j,none⟩ v) o; rw [SZ] at q; exact q⟩
   go_cut [20] (fun s20 wc => Hid (WBut [B] w2 wc) ∧ Hid (wc.heap[B]? = some (.cells (C.setIfInBounds j (.slice (some ⟨w2.heap.size,0,none⟩) nm nm)) t (0,0))) ∧ Hid (wc.heap[w2.heap.size]? = some (.cells (madeCells #[.int .u64 0,.int .i64 0] (nm * 2)) 150 (0,0))))
   case first =>
    go_region_law (fail)
    all_goals (go_wp2_with fail; go_meet)
    all_goals exact FIN _ _
   case rest =>
    obtain ⟨HW,HBc,HMc⟩:=hcut
    have HX2:Hid (∀ wr,WBut [B] w2 wr → wr.cell? ⟨X,0,none⟩ = some (.pointer (some ⟨B,j,none⟩)) ∧ wr.cell? ⟨S,0,none⟩ = some (.func (.func 175) #[] #[])):=fun wr g => ⟨blk_cell (but_blk (wide_blk HX.out HG.out) g hX) 0 rfl,blk_cell (but_blk (wide_blk HSS.out HG.out) g hS) 0 rfl⟩
    clear hmk x2 x2a h2a f2a KM SZ FIN hold fr
    obtain ⟨MB,hMB⟩ : ∃ MB,w2.heap.size = MB:=⟨_,rfl⟩
    rw [hMB] at HBc HMc hBs
    go_wp2
    go_loopw [27] (fun i wr => ∃ k:Nat,k ≤ nm ∧ i = .int .i64 (k:Int) ∧ Hid (WBut [B] w2 wr) ∧ Hid (wr.heap[B]? = some (.cells (C.setIfInBounds j (.slice (some ⟨MB,0,none⟩) nm nm)) t (0,0))) ∧ ∃ D L,Hid (wr.heap[MB]? = some (.cells D 150 (0,0)) ∧ mapD cBucket.dec (m.take k) = some L ∧ D.toList = cellsK ksBucket L ++ cellsK ksBucket (List.replicate (nm - k) cBucket.zero))) (fun i _ => nm - (intOf i).toNat)
    case atStart => exact ⟨0,by omega,by simp,HW,HBc,_,[],HMc.out,rfl,by rw [Nat.sub_zero]; exact made_K ksBucket cBucket.zero #[.int .u64 0,.int .i64 0] rfl rfl (by decide) nm⟩
    case round =>
     obtain ⟨k,hk,rfl,HWr,HBr,D,L,HDr⟩:=hrel
     clear HW HBc HMc
     have hLl:L.length = k:=by have q:=mapD_length _ _ _ HDr.out.2.1; rw [List.length_take_of_le (by rw [HN.out]; exact hk)] at q; exact q
     have hLo:∀ x ∈ L,x.length = ksBucket.length:=fun x hx => lenBucket x ((mapD_back cBucket _ _ HDr.out.2.1).1 x hx)
     have hPl:(cellsK ksBucket L).length = k * 2:=by have q:=cellsK_len ksBucket L hLo; rw [hLl] at q; exact q
     by_cases ck:k < nm
     · have j0:(0:Int) ≤ (k:Int):=by omega
       have j1:(k:Int) < (nm:Int):=by omega
       obtain ⟨q,hq⟩:=next_some m k (by rw [HN.out]; exact ck)
       have hOr:wr.ownsRow w.heap.size 9 1 (.slice A nm cp) nm (cellsS m):=ownsRow_heap HO.out fun i hi => HWr.out.heap i (HO.out.lt i (by simpa using hi)).2 (by have:=(HO.out.lt i (by simpa using hi)).1; simp; omega)
       obtain ⟨A',cp',ea,ha,_⟩:=strsAt_own hOr
       injection ea with ea1 ea2 ea3
       subst ea1 ea3
       cases A with
       | none => exact absurd (ha.none_ rfl) (by intro e; rw [e] at hq; simp at hq)
       | some a =>
         have cq:=ha.cell a rfl k q hq
         have sz:q.size < 1000000:=item_small HD.out hs9 hq
         have HQ:=Lib.hid hq
         have ⟨x2,s2⟩:=HX2.out wr HWr.out
         have b2:wr.cell? ⟨B,j,none⟩ = some (.slice (some ⟨MB,0,none⟩) nm nm):=blk_cell HBr.out j (set_at hj)
         have hDs:D.size = nm * 2:=by have e:=congrArg List.length HDr.out.2.2; rw [Array.length_toList,List.length_append,hPl,cellsK_len _ _ (fun x hx => by rw [List.eq_of_mem_replicate hx]; rfl),List.length_replicate] at e; have e2:ksBucket.length = 2:=rfl; rw [e2] at e; omega
         have hrep:List.replicate (nm - k) cBucket.zero = cBucket.zero :: List.replicate (nm - (k + 1)) cBucket.zero:=by rw [← List.replicate_succ]; congr 1; omega
         have hDt:D.toList = cellsK ksBucket L ++ List.zipWith Value.int ksBucket cBucket.zero ++ cellsK ksBucket (List.replicate (nm - (k + 1)) cBucket.zero):=by rw [HDr.out.2.2,hrep,List.append_assoc]; rfl
         have hzero:∀ i,i < 2 → D[k * 2 + i]? = (List.zipWith Value.int ksBucket cBucket.zero)[i]? :=fun i hi => by rw [← Array.getElem?_toList,hDt,List.append_assoc,List.getElem?_append_right (by rw [hPl]; omega),hPl,List.getElem?_append_left (by show _ < 2; omega)]; congr 1; omega
         have zi:=fun W:World => bucket_i W ⟨MB,k * 2,none⟩
         have hMBr:wr.heap.size > MB:=(Array.getElem?_eq_some_iff.1 HDr.out.1).1
         have HDT:=Lib.hid hDt
         have HZ:=Lib.hid hzero
         have HPL:=Lib.hid hPl
         have HDS:=Lib.hid hDs
         have HMBr:=Lib.hid hMBr
         have nMB:MB ≠ B:=by omega
         clear hq ha hOr hDt hzero hPl hDs hMBr hrep hLo
         cases hdec:cBucket.dec q with
         | some y =>
           have hwy:=lenBucket y (cBucket.back _ _ hdec).1
           have HDEC:=Lib.hid hdec
           have HWY:=Lib.hid hwy
           clear hdec hwy
           go_upto_region 8 with (fail)
           go_region_law (first
            | (go_simp; go_at_call 175; (with_reducible refine (zi _).mono ?_); rintro e w1 ⟨x,rfl,g1,h1⟩; have G1:=(Wider.refl wr).drew.trans g1; have hg:=h1.get MB (k * 2) rfl HMBr.out w1 D 150 (Keeps.refl _ _) (wide_blk HDr.out.1 G1) (by rw [HDS.out]; show k * 2 + 2 ≤ nm * 2; omega) HZ.out q sz; have ent:∀ (args:Array Value) (w:World),(callFunc x.gf args).run Tryz.prog w = .ok (.enter x.gf args) w:=h1.ent; have GH:=Lib.hid G1; clear h1 g1 G1; have hg1:=hg.1 y HDEC.out; clear hg)
            | (go_simp; go_at_fn x.gf; (with_reducible refine hg1.mono ?_); rintro e w3 ⟨rfl,g3,C3,hC3,hs3,ho3,hy3⟩; have N1:=Lib.hid (And.intro g3 (And.intro hC3 (And.intro hs3 (And.intro ho3 hy3)))); clear g3 hC3 hs3 ho3 hy3))
           all_goals
            go_wp2
            go_roundw
            case rel =>
             obtain ⟨g3,hC3,hs3,ho3,hy3⟩:=N1.out
             have hPL:=HPL.out
             refine ⟨k + 1,by omega,by go_num,(HWr.out.thenW GH.out).trans g3 (fun i m => .inr (by simp only [List.mem_singleton] at m; omega)),but_blk (wide_blk HBr.out GH.out) g3 (Ne.symm nMB),C3,L ++ [y],hC3,mapD_some_snoc HDr.out.2.1 HQ.out HDEC.out,?_⟩
             rw [cellsK_snoc]
             exact cells_next HDT.out hs3 (fun i hi => ho3 i (by rw [hPL] at hi; exact hi)) (fun i hi => by rw [hPL]; exact hy3 i hi) (by rw [List.length_zipWith,HWY.out]; rfl)
            case measure => simp [intOf]; omega
         | none =>
           have hbad:=lstV_no (hm:=by decide) (hi:=by decide) HD.out (mapD_none_snoc HDr.out.2.1 HQ.out hdec)
           have hbad:lBuckets.dec s = none:=hbad
           have HBAD:=Lib.hid hbad
           have HDEC:=Lib.hid hdec
           clear hdec hbad
           go_upto_region 8 with (fail)
           go_region_law (first
            | (go_simp; go_at_call 175; (with_reducible refine (zi _).mono ?_); rintro e w1 ⟨x,rfl,g1,h1⟩; have G1:=(Wider.refl wr).drew.trans g1; have hg:=h1.get MB (k * 2) rfl HMBr.out w1 D 150 (Keeps.refl _ _) (wide_blk HDr.out.1 G1) (by rw [HDS.out]; show k * 2 + 2 ≤ nm * 2; omega) HZ.out q sz; have ent:∀ (args:Array Value) (w:World),(callFunc x.gf args).run Tryz.prog w = .ok (.enter x.gf args) w:=h1.ent; have GH:=Lib.hid G1; clear h1 g1 G1; have hg1:=hg.2 HDEC.out; clear hg)
            | (go_simp; go_at_fn x.gf; (with_reducible refine hg1.mono ?_); rintro e w3 ⟨r3,rfl,hr3,g3⟩; have d3:((r3:Int) == 0) = false:=by rw [beq_eq_false_iff_ne]; omega))
           all_goals
            go_wp2
            go_ret
            exact ⟨r3,rfl,wider_but HG.out ((HWr.out.thenW GH.out).trans g3 (fun i m => .inr (by simp only [List.mem_singleton] at m; omega))),.inr ⟨HBAD.out,hr3⟩⟩
     · obtain rfl:k = nm:=by omega
       have hmm:=HDr.out.2.1
       rw [List.take_of_length_le (by rw [HN.out]; exact Nat.le_refl _)] at hmm
       have hDt:=HDr.out.2.2
       rw [Nat.sub_self,List.replicate_zero] at hDt
       have hDt2:D.toList = cellsK ksBucket L:=by rw [hDt]; simp [cellsK]
       have hgood:lBuckets.dec s = some (.lst L):=lstV_yes HD.out hmm
       have P1:=Lib.hid (wider_but HG.out HWr.out)
       have P2:=Lib.hid hgood
       have P3:Hid (∃ u,relL 150 2 ksBucket B wr u (.lst L) ∧ wr.heap[B]? = some (.cells (C.setIfInBounds j u) t (0,0))):=by
        refine ⟨.slice (some ⟨MB,0,none⟩) k k,⟨some ⟨MB,0,none⟩,k,k,L,rfl,rfl,hLl,hPl,.inr ⟨MB,k,D,rfl,by omega,HDr.out.1,Nat.le_refl _,by unfold maxLen; omega,?_,?_⟩⟩,HBr.out⟩
        · rw [← Array.length_toList,hDt2,hPl]
        · rw [← hDt2]; exact List.take_of_length_le (by rw [hDt2,hPl]; exact Nat.le_refl _)
       clear hmm hDt hDt2 hgood hLo hPl hLl
       go_wp2
       go_ret
       exact ⟨0,rfl,P1.out,.inl ⟨_,P2.out,rfl,P3.out⟩⟩
 · have hbad:lBuckets.dec s = none:=lstV_bad hd c0
   have d0:((c:Int) == 0) = false:=by rw [beq_eq_false_iff_ne]; omega
   clear hd hx hs hB
   go_enter Tryz.func201,Tryz.ntmps201
   go_wp2_with (go_at_call 123; ((with_reducible refine (zd _).mono ?_); rintro e w2 ⟨A,cp,rfl,g2,h2⟩))
   go_ret
   exact ⟨c,rfl,g2.but _,.inr ⟨hbad,c0⟩⟩
theorem listBucket_c (w:World) (q:Addr) :
 Calls Tryz.prog 174 #[.pointer (some q),.int .i64 16,.func (.func 175) #[] #[]] w fun e w' => ∃ x:FnP,e = .returned (.agg #[.func (.func x.pf) #[] x.pc,.func (.func x.gf) #[] x.gc]) ∧ Wider w w' ∧ PartV lBuckets (inL ksBucket) (relL 150 2 ksBucket) w.heap.size w' x q:=by
 have hmf:=mk_func
 have H:=((((Own.nil (Wider.refl w)).blk #[.pointer (some q)] 235).blk #[.int .i64 16] 3).blk #[.func (.func 175) #[] #[]] 236).blk #[.func (.func 200) #[] #[.pointer (some ⟨w.heap.size,0,none⟩),.pointer (some ⟨w.heap.size + 1,0,none⟩),.pointer (some ⟨w.heap.size + 2,0,none⟩)],.func (.func 201) #[] #[.pointer (some ⟨w.heap.size + 1,0,none⟩),.pointer (some ⟨w.heap.size,0,none⟩),.pointer (some ⟨w.heap.size + 2,0,none⟩)]] 200
 have z1:(w.alloc (.cells #[.pointer (some q)] 235)).heap.size = w.heap.size + 1:=by simp
 have z2:((w.alloc (.cells #[.pointer (some q)] 235)).alloc (.cells #[.int .i64 16] 3)).heap.size = w.heap.size + 2:=by simp
 rw [z1,z2] at H
 clear z1 z2
 go_enter Tryz.func174,Tryz.ntmps174
 go_wp2
 simp [bodyPost,results,Tryz.results174,go_sem]
 have hx:=H.drop.drop.drop.head
 have hm:=H.drop.drop.head
 have hs:=H.drop.head
 refine ⟨⟨_,_,_,_⟩,⟨⟨rfl,rfl⟩,rfl,rfl⟩,H.wider,?_,enters_of Tryz.func201 (by kernel_rfl) rfl,?_⟩
 · rintro w2 g2 u y hc ⟨A,n,cap,L,rfl,rfl,hn,hn9,hA,hw⟩ T r hr
   refine ⟨enters_of Tryz.func200 (by kernel_rfl) rfl,fun w3 g3 => ?_⟩
   exact lputBucket_c (wide_blk (keep_blk hx g2 (by omega)) g3) (wide_blk (keep_blk hm g2 (by omega)) g3) (wide_blk (keep_blk hs g2 (by omega)) g3) (wkeep g3 hc) (hA.on g3) hn hn9 hw hr
 · intro B j hq hB w2 C t g2 hC hj s hs9
   subst hq
   have k:=lgetBucket_c (keep_blk hx g2 (by omega)) (keep_blk hm g2 (by omega)) (keep_blk hs g2 (by omega)) (by omega) (by omega) hC hj s hs9
   refine ⟨fun y hy => k.mono ?_,fun hn => k.mono ?_⟩
   · rintro e w3 ⟨r,rfl,g3,⟨y2,h1,rfl,h2⟩ | ⟨h1,_⟩⟩
     · rw [hy] at h1
       injection h1 with h1
       subst h1
       exact ⟨rfl,g3,h2⟩
     · rw [hy] at h1; cases h1
   · rintro e w3 ⟨r,rfl,g3,⟨y2,h1,_⟩ | ⟨_,h2⟩⟩
     · rw [hn] at h1; cases h1
     · exact ⟨r,rfl,h2,g3⟩
end Go.Proofs.YtoopdhgmdjienaaGreatDoor
