/- OKindGroup OTopGroup ORdGroup ORepGroup OKindMeter OTopMeter -/
import Derived.Test.YtoopdhgmdjienaaGreatDoorPkR21
namespace Go.Proofs.YtoopdhgmdjienaaGreatDoor
set_option linter.unusedVariables false
set_option maxRecDepth 20000
open Go.ChangeShapes Go.WideShapes Go.ChangeAt Go.RowKit Go.Joins
open Go.ChangeMaps (open_string shut_string)
set_option maxHeartbeats 64000000
theorem group_s (w:World) (p:Addr) :
 Calls Tryz.prog 135 #[.pointer (some p)] w fun e w' => ∃ x:FnP,e = .returned (.agg #[.func (.func x.pf) #[] x.pc,.func (.func x.gf) #[] x.gc]) ∧ Wider w w' ∧ ∃ x0 x1 x2 x3:FnP,RecAt w.heap.size w' x [x0,x1,x2,x3] ∧ NumP .i64 2147483647 (by decide) w.heap.size w' x0 p ∧ NumP .u8 255 (by decide) w.heap.size w' x1 ⟨p.block,p.off + 1,none⟩ ∧ NumP .i64 2147483647 (by decide) w.heap.size w' x2 ⟨p.block,p.off + 2,none⟩ ∧ PartV lBuckets (inL ksBucket) (relL 150 2 ksBucket) w.heap.size w' x3 ⟨p.block,p.off + 3,none⟩:=by
 have H:=(Own.nil (Wider.refl w)).blk #[.nilFunc,.nilFunc] 200
 have hs:(w.alloc (.cells #[.nilFunc,.nilFunc] 200)).heap.size = w.heap.size + 1:=by simp
 have b0:w.heap.size < (w.alloc (.cells #[.nilFunc,.nilFunc] 200)).drew.heap.size:=by show w.heap.size < (w.alloc _).heap.size; rw [hs]; omega
 have zr:∀ (W:World) (t:TypeId) (x0 x1 x2 x3:FnP),w.heap.size < W.heap.size → Calls Tryz.prog 161 #[.slice (some ⟨W.heap.size,0,none⟩) 4 4] (W.alloc (.cells #[.func (.func x0.pf) #[] x0.pc,.func (.func x0.gf) #[] x0.gc,.func (.func x1.pf) #[] x1.pc,.func (.func x1.gf) #[] x1.gc,.func (.func x2.pf) #[] x2.pc,.func (.func x2.gf) #[] x2.gc,.func (.func x3.pf) #[] x3.pc,.func (.func x3.gf) #[] x3.gc] t)) fun e w' => ∃ x:FnP,e = .returned (.agg #[.func (.func x.pf) #[] x.pc,.func (.func x.gf) #[] x.gc]) ∧ Wider (W.alloc (.cells #[.func (.func x0.pf) #[] x0.pc,.func (.func x0.gf) #[] x0.gc,.func (.func x1.pf) #[] x1.pc,.func (.func x1.gf) #[] x1.gc,.func (.func x2.pf) #[] x2.pc,.func (.func x2.gf) #[] x2.gc,.func (.func x3.pf) #[] x3.pc,.func (.func x3.gf) #[] x3.gc] t)) w' ∧ RecAt (w.heap.size + 1) w' x [x0,x1,x2,x3] :=
  fun W t x0 x1 x2 x3 h => record_c _ (ps:=[x0,x1,x2,x3]) (heap_alloc_new W _) rfl h
 have p0:=add0 p
 have B0:=Lib.hid b0
 have HH:=Lib.hid (H.quiet (Wider.refl _).drew)
 clear hs b0 H
 go_enter Tryz.func135,Tryz.ntmps135
 go_upto_region 1 with (fail)
 go_region_law (first
  | (go_simp; go_at_call 162; (with_reducible refine (owhole_c _ p).mono ?_); rintro e w1 ⟨x0,rfl,g0,h0⟩; have B1:Hid (w.heap.size < w1.heap.size):=Nat.lt_of_lt_of_le B0.out g0.2; have S0:=Lib.hid h0; have T0:=Lib.hid g0; clear h0 g0)
  | (go_simp; go_at_call 165; (with_reducible refine (ooctet_c _ ⟨p.block,p.off + 1,none⟩).mono ?_); rintro e w2 ⟨x1,rfl,g1,h1⟩; have B2:Hid (w.heap.size < w2.heap.size):=Nat.lt_of_lt_of_le B1.out g1.2; have S1:=Lib.hid h1; have T1:=Lib.hid g1; clear h1 g1)
  | (go_simp; go_at_call 162; (with_reducible refine (owhole_c _ ⟨p.block,p.off + 2,none⟩).mono ?_); rintro e w3 ⟨x2,rfl,g2,h2⟩; have B3:Hid (w.heap.size < w3.heap.size):=Nat.lt_of_lt_of_le B2.out g2.2; have S2:=Lib.hid h2; have T2:=Lib.hid g2; clear h2 g2)
  | (go_simp; go_at_call 174; (with_reducible refine (listBucket_c _ ⟨p.block,p.off + 3,none⟩).mono ?_); rintro e w4 ⟨x3,rfl,g3,h3⟩; have B4:Hid (w.heap.size < w4.heap.size):=Nat.lt_of_lt_of_le B3.out g3.2; have S3:=Lib.hid h3; have T3:=Lib.hid g3; clear h3 g3)
  | (go_simp; go_at_call 161; (with_reducible refine (zr _ _ x0 x1 x2 x3 B4.out).mono ?_); rintro e wR ⟨xr,rfl,gR,hR⟩; have HW:=(((((HH.out.quiet T0.out).quiet T1.out).quiet T2.out).quiet T3.out).quiet ((Wider.refl w4).alloc _)).quiet gR; have k0:=blk_cell HW.head 0 (v:=.nilFunc) rfl; have k1:=blk_cell HW.head 1 (v:=.nilFunc) rfl; have f0:=blk_free HW.head 0; have f1:=blk_free HW.head 1; have SR:=Lib.hid hR; have TR:=Lib.hid gR; clear hR gR))
 all_goals
  have H2:=(HW.store 0 (.func (.func xr.pf) #[] xr.pc)).store 1 (.func (.func xr.gf) #[] xr.gc)
  have d0:=blk_cell H2.head 0 (v:=.func (.func xr.pf) #[] xr.pc) rfl
  have d1:=blk_cell H2.head 1 (v:=.func (.func xr.gf) #[] xr.gc) rfl
  have KS:∀ b,w.heap.size < b → Keeps b wR ((wR.setCell ⟨w.heap.size,0,none⟩ (.func (.func xr.pf) #[] xr.pc)).setCell ⟨w.heap.size,1,none⟩ (.func (.func xr.gf) #[] xr.gc)):=fun b hb => (keeps_set wR hb).trans (keeps_set _ hb)
  clear k0 k1 f0 f1 HW
  go_wp2
  simp [bodyPost,results,Tryz.results135,go_sem,d0,d1]
  exact ⟨xr,⟨⟨rfl,rfl⟩,rfl,rfl⟩,H2.wider,x0,x1,x2,x3,SR.out.on (KS _ (Nat.lt_succ_self _)) (Nat.le_succ _),S0.out.on ((((((((Wider.refl w1).trans T1.out).trans T2.out).trans T3.out).alloc _).trans TR.out).keeps _).trans (KS _ B0.out)) (Nat.le_of_lt B0.out),S1.out.on (((((((Wider.refl w2).trans T2.out).trans T3.out).alloc _).trans TR.out).keeps _).trans (KS _ B1.out)) (Nat.le_of_lt B1.out),S2.out.on ((((((Wider.refl w3).trans T3.out).alloc _).trans TR.out).keeps _).trans (KS _ B2.out)) (Nat.le_of_lt B2.out),S3.out.on (((((Wider.refl w4).alloc _).trans TR.out).keeps _).trans (KS _ B3.out)) (Nat.le_of_lt B3.out)⟩
theorem group_puts {w W:World} {x:FnP} {v0:Int} {v1:Int} {v2:Int} {A:Option Addr} {n cap:Nat} {L:List (List Int)} (w0:(Lit.int .i64 v0).wf = true) (w1:(Lit.int .u8 v1).wf = true) (w2:(Lit.int .i64 v2).wf = true) (hA:RowAt w A 2 (rowsK ksBucket L)) (hn:L.length = n) (hn9:n < 1000000) (hL:∀ x ∈ L,wfK ksBucket x) (hg:Wider w W) {B:Nat} (hB:W.heap[B]? = some (.cells #[.int .i64 v0,.int .u8 v1,.int .i64 v2,.slice A n cap] 45 (0,0)))
 {b0:Nat} {x0 x1 x2 x3:FnP} (hR:RecAt b0 W x [x0,x1,x2,x3]) (hp:NumP .i64 2147483647 (by decide) b0 W x0 (⟨B,0,none⟩ : Addr) ∧ NumP .u8 255 (by decide) b0 W x1 (⟨B,0 + 1,none⟩ : Addr) ∧ NumP .i64 2147483647 (by decide) b0 W x2 (⟨B,0 + 2,none⟩ : Addr) ∧ PartV lBuckets (inL ksBucket) (relL 150 2 ksBucket) b0 W x3 (⟨B,0 + 3,none⟩ : Addr)) {T:ByteArray} {r:Nat} (hr:PutG csGroup [ValN.num v0,ValN.num v1,ValN.num v2,ValN.lst L] T r):Puts W x T r:=by
 obtain ⟨h0,h1,h2,h3⟩:=hp
 refine recput_c hR rfl rfl (fun k p c y e1 e2 e3 T r h => ?_) (by decide) (by decide) (by decide) hr
 match k,e1,e2,e3 with
 | 0,e1,e2,e3 =>
   simp [csGroup] at e1 e2 e3
   subst e1 e2 e3
   exact h0.part.put W (Keeps.refl _ _) _ _ (blk_cell hB 0 rfl) ⟨_,rfl,rfl,w0⟩ T r h
 | 1,e1,e2,e3 =>
   simp [csGroup] at e1 e2 e3
   subst e1 e2 e3
   exact h1.part.put W (Keeps.refl _ _) _ _ (blk_cell hB 1 rfl) ⟨_,rfl,rfl,w1⟩ T r h
 | 2,e1,e2,e3 =>
   simp [csGroup] at e1 e2 e3
   subst e1 e2 e3
   exact h2.part.put W (Keeps.refl _ _) _ _ (blk_cell hB 2 rfl) ⟨_,rfl,rfl,w2⟩ T r h
 | 3,e1,e2,e3 =>
   simp [csGroup] at e1 e2 e3
   subst e1 e2 e3
   exact h3.put W (Keeps.refl _ _) _ _ (blk_cell hB 3 rfl) ⟨A,n,cap,L,rfl,rfl,hn,hn9,hA.on hg,hL⟩ T r h
 | k + 4,e1,e2,e3 => simp at e1
theorem putGroup_c (w:World) {v0:Int} {v1:Int} {v2:Int} {A:Option Addr} {n cap:Nat} {L:List (List Int)} (w0:(Lit.int .i64 v0).wf = true) (w1:(Lit.int .u8 v1).wf = true) (w2:(Lit.int .i64 v2).wf = true) (hA:RowAt w A 2 (rowsK ksBucket L)) (hn:L.length = n) (hn9:n < 1000000) (hL:∀ x ∈ L,wfK ksBucket x) {T:ByteArray} {r:Nat} (hr:PutG csGroup [ValN.num v0,ValN.num v1,ValN.num v2,ValN.lst L] T r) :
 Calls Tryz.prog 117 #[.agg #[.int .i64 v0,.int .u8 v1,.int .i64 v2,.slice A n cap]] w fun e w' => e = .returned (.tuple #[.string T,.int .i64 (r:Int)]) ∧ Wider w w':=by
 have H:=(Own.nil (Wider.refl w)).blk #[.int .i64 v0,.int .u8 v1,.int .i64 v2,.slice A n cap] 45
 have zs:=group_s (w.alloc (.cells #[.int .i64 v0,.int .u8 v1,.int .i64 v2,.slice A n cap] 45)) ⟨w.heap.size,0,none⟩
 have hfp:=fld_put
 have HH:=Lib.hid H
 clear H
 go_enter Tryz.func117,Tryz.ntmps117
 go_wp2_with (first
  | (go_at_call 135; (with_reducible refine zs.mono ?_); rintro e wA ⟨x,rfl,g1,x0,x1,x2,x3,hR,hp⟩; have hq:=group_puts (w0:=w0) (w1:=w1) (w2:=w2) (hA:=hA) (hn:=hn) (hn9:=hn9) (hL:=hL) (((Wider.refl w).alloc _).trans g1) (HH.out.quiet g1).head hR hp hr; have ent:∀ (args:Array Value) (w:World),(callFunc x.pf args).run Tryz.prog w = .ok (.enter x.pf args) w:=hq.1; have hq2:=hq.2 wA (Wider.refl _); clear hq hR hp)
  | (go_at_fn x.pf; (with_reducible refine hq2.mono ?_); rintro e wB ⟨rfl,g2⟩))
 go_ret2
 exact ⟨rfl,(((Wider.refl w).alloc _).trans g1).trans g2⟩
theorem group_gets {W:World} {x:FnP} {B b0:Nat} (hb:B < b0) (hB:W.heap[B]? = some (.cells #[.int .i64 0,.int .u8 0,.int .i64 0,.slice none 0 0] 45 (0,0)))
 {x0 x1 x2 x3:FnP} (hR:RecAt b0 W x [x0,x1,x2,x3]) (hp:NumP .i64 2147483647 (by decide) b0 W x0 (⟨B,0,none⟩ : Addr) ∧ NumP .u8 255 (by decide) b0 W x1 (⟨B,0 + 1,none⟩ : Addr) ∧ NumP .i64 2147483647 (by decide) b0 W x2 (⟨B,0 + 2,none⟩ : Addr) ∧ PartV lBuckets (inL ksBucket) (relL 150 2 ksBucket) b0 W x3 (⟨B,0 + 3,none⟩ : Addr)) (s:ByteArray) (hs:s.size < 1000000) {v0:Int} {v1:Int} {v2:Int} {L:List (List Int)} {r:Nat} (hr:decG csGroup s.data.toList = ([ValN.num v0,ValN.num v1,ValN.num v2,ValN.lst L],r)) :
 Enters Tryz.prog x.gf ∧ Calls Tryz.prog x.gf (#[.string s] ++ x.gc) W fun e w' => e = .returned (.int .i64 (r:Int)) ∧ WBut [B] W w' ∧ (r = 0 → ∃ (A:Option Addr) (n cap:Nat),w'.heap[B]? = some (.cells #[.int .i64 v0,.int .u8 v1,.int .i64 v2,.slice A n cap] 45 (0,0)) ∧ L.length = n ∧ w'.ownsRow (B + 1) 150 2 (.slice A n cap) n (cellsK ksBucket L)):=by
 obtain ⟨h0,h1,h2,h3⟩:=hp
 have k:=recget_c (B:=B) hR (cs:=csGroup) (os:=[0,1,2,3]) (Rs:=[relV .i64,relV .u8,relV .i64,relL 150 2 ksBucket]) rfl rfl rfl (by decide) (by
  intro R hR
  simp only [List.mem_cons,List.not_mem_nil,or_false] at hR
  rcases hR with rfl | rfl | rfl | rfl
  · exact relV_S _
  · exact relV_S _
  · exact relV_S _
  · exact relL_S _ _ _
  ) (by decide) (fun k p c o R e1 e2 e3 e4 => by
  match k,e1,e2,e3,e4 with
  | 0,e1,e2,e3,e4 =>
    simp [csGroup] at e1 e2 e3 e4
    subst e1 e2 e3 e4
    exact h0.part.get
  | 1,e1,e2,e3,e4 =>
    simp [csGroup] at e1 e2 e3 e4
    subst e1 e2 e3 e4
    exact h1.part.get
  | 2,e1,e2,e3,e4 =>
    simp [csGroup] at e1 e2 e3 e4
    subst e1 e2 e3 e4
    exact h2.part.get
  | 3,e1,e2,e3,e4 =>
    simp [csGroup] at e1 e2 e3 e4
    subst e1 e2 e3 e4
    exact h3.get
  | k + 4,e1,e2,e3,e4 => simp at e1) hb
 refine ⟨k.1,(k.2 W _ _ (Keeps.refl _ _) hB (by decide) ?_ s hs _ r hr).mono ?_⟩
 · intro k o R y e1 e2 e3
   match k,e1,e2,e3 with
   | 0,e1,e2,e3 =>
     simp [csGroup,zeroG] at e1 e2 e3
     subst e1 e2 e3
     exact ⟨_,rfl,0,rfl,rfl⟩
   | 1,e1,e2,e3 =>
     simp [csGroup,zeroG] at e1 e2 e3
     subst e1 e2 e3
     exact ⟨_,rfl,0,rfl,rfl⟩
   | 2,e1,e2,e3 =>
     simp [csGroup,zeroG] at e1 e2 e3
     subst e1 e2 e3
     exact ⟨_,rfl,0,rfl,rfl⟩
   | 3,e1,e2,e3 =>
     simp [csGroup,zeroG] at e1 e2 e3
     subst e1 e2 e3
     exact ⟨_,rfl,none,0,0,[],rfl,rfl,rfl,World.ownsRow_nil _ _ _ _⟩
   | k + 4,e1,e2,e3 => simp at e1
 · rintro e w3 ⟨rfl,g3,h⟩
   refine ⟨rfl,g3,fun h0 => ?_⟩
   obtain ⟨C',hC,hs',_,hst⟩:=h h0
   obtain ⟨u0,hu0,hv0⟩:=hst 0 0 _ _ rfl rfl rfl
   obtain ⟨n0,q0,rfl⟩:=hv0
   injection q0 with q0
   subst q0
   obtain ⟨u1,hu1,hv1⟩:=hst 1 1 _ _ rfl rfl rfl
   obtain ⟨n1,q1,rfl⟩:=hv1
   injection q1 with q1
   subst q1
   obtain ⟨u2,hu2,hv2⟩:=hst 2 2 _ _ rfl rfl rfl
   obtain ⟨n2,q2,rfl⟩:=hv2
   injection q2 with q2
   subst q2
   obtain ⟨u3,hu3,hv3⟩:=hst 3 3 _ _ rfl rfl rfl
   obtain ⟨A,n,cap,L2,rfl,qL,hLn,hLo⟩:=hv3
   injection qL with qL
   subst qL
   have e:C' = #[.int .i64 v0,.int .u8 v1,.int .i64 v2,.slice A n cap]:=by
    refine arr_of hs' fun i hi => ?_
    have hi:i < 4:=hi
    match i,hi with
    | 0,_ => exact hu0
    | 1,_ => exact hu1
    | 2,_ => exact hu2
    | 3,_ => exact hu3
    | i + 4,h => omega
   subst e
   exact ⟨A,n,cap,hC,hLn,hLo⟩
theorem rdGroup_c (s:ByteArray) (w:World) (hs:s.size < 1000000) {v0:Int} {v1:Int} {v2:Int} {L:List (List Int)} {r:Nat} (hr:decG csGroup s.data.toList = ([ValN.num v0,ValN.num v1,ValN.num v2,ValN.lst L],r)) :
 Calls Tryz.prog 134 #[.string s,.func (.func 135) #[] #[]] w fun e w' => ∃ (A:Option Addr) (n cap:Nat),e = .returned (.tuple #[.agg #[.int .i64 v0,.int .u8 v1,.int .i64 v2,.slice A n cap],.int .i64 (r:Int)]) ∧ Wider w w' ∧ L.length = n ∧ w'.ownsRow w.heap.size 150 2 (.slice A n cap) n (cellsK ksBucket L):=by
 have H:=(((Own.nil (Wider.refl w)).blk #[.int .i64 0,.int .u8 0,.int .i64 0,.slice none 0 0] 45).blk #[.int .i64 0,.int .u8 0,.int .i64 0,.slice none 0 0] 45).blk #[.int .i64 0,.int .u8 0,.int .i64 0,.slice none 0 0] 45
 have z1:(w.alloc (.cells #[.int .i64 0,.int .u8 0,.int .i64 0,.slice none 0 0] 45)).heap.size = w.heap.size + 1:=by simp
 have z2:((w.alloc (.cells #[.int .i64 0,.int .u8 0,.int .i64 0,.slice none 0 0] 45)).alloc (.cells #[.int .i64 0,.int .u8 0,.int .i64 0,.slice none 0 0] 45)).heap.size = w.heap.size + 2:=by simp
 rw [z1,z2] at H
 have z3:(((w.alloc (.cells #[.int .i64 0,.int .u8 0,.int .i64 0,.slice none 0 0] 45)).alloc (.cells #[.int .i64 0,.int .u8 0,.int .i64 0,.slice none 0 0] 45)).alloc (.cells #[.int .i64 0,.int .u8 0,.int .i64 0,.slice none 0 0] 45)).heap.size = w.heap.size + 3:=by simp
 have zs:=group_s (((w.alloc (.cells #[.int .i64 0,.int .u8 0,.int .i64 0,.slice none 0 0] 45)).alloc (.cells #[.int .i64 0,.int .u8 0,.int .i64 0,.slice none 0 0] 45)).alloc (.cells #[.int .i64 0,.int .u8 0,.int .i64 0,.slice none 0 0] 45)) ⟨w.heap.size + 1,0,none⟩
 rw [z3] at zs
 have hbad:=decG_bad csGroup s.data.toList
 rw [hr] at hbad
 have hfg:=fld_get
 have HR:=Lib.hid hr
 have HBAD:=Lib.hid hbad
 have HH:=Lib.hid H
 clear z1 z2 z3 hr hbad H
 by_cases r0:r = 0
 · subst r0
   go_enter Tryz.func134,Tryz.ntmps134
   go_wp2_with (first
    | (go_at_call 135; (with_reducible refine zs.mono ?_); rintro e wA ⟨x,rfl,g1,x0,x1,x2,x3,hR,hp⟩; have H1:=HH.out.quiet g1; have hq:=group_gets (B:=w.heap.size + 1) (by omega) H1.second hR hp s hs HR.out; have ent:∀ (args:Array Value) (w:World),(callFunc x.gf args).run Tryz.prog w = .ok (.enter x.gf args) w:=hq.1; have hq2:=hq.2; clear hq hR hp)
    | (go_at_fn x.gf; (with_reducible refine hq2.mono ?_); rintro e wB ⟨rfl,g2,hz⟩; obtain ⟨A,n,cap,hX,hLn,hLo⟩:=hz (by trivial); have hR3:=but_blk H1.drop.drop.head g2 (by omega))
    | (with_reducible refine wpList_load_row rfl 45 (.tmp 6) rfl (w.heap.size + 1) rfl 45 #[.int .i64 v0,.int .u8 v1,.int .i64 v2,.slice A n cap] (0,0) _ hX Tryz.underlying45 rfl (by kernel_rfl) ?_)
    | (with_reducible refine wpList_store_row rfl 45 (.tmp 4) (.tmp 18) rfl w.heap.size #[.int .i64 v0,.int .u8 v1,.int .i64 v2,.slice A n cap] rfl rfl 45 #[.int .i64 0,.int .u8 0,.int .i64 0,.slice none 0 0] hR3 (by kernel_rfl) rfl (by simp [Value.oneCell']) ?_; obtain ⟨g6,h6⟩:=setRow_facts #[.int .i64 v0,.int .u8 v1,.int .i64 v2,.slice A n cap] hR3))
   have hsz:wB.heap.size > w.heap.size:=by have:=g2.size; have:=(Array.getElem?_eq_some_iff.1 H1.drop.drop.head).1; omega
   have W5:Wider w wB:=g2.wider H1.wider (by intro i m; simp only [List.mem_singleton] at m; omega)
   have W6w:Wider w _:=g6.wider W5 (by intro i m; simp only [List.mem_singleton] at m; omega)
   have d100:=blk_cell h6 0 (v:=.int .i64 v0) rfl
   have d101:=blk_cell h6 1 (v:=.int .u8 v1) rfl
   have d102:=blk_cell h6 2 (v:=.int .i64 v2) rfl
   have d103:=blk_cell h6 3 (v:=.slice A n cap) rfl
   simp [bodyPost,results,Tryz.results134,go_sem,d100,d101,d102,d103]
   exact ⟨A,n,cap,by simp,W6w,hLn,ownsRow_less (b:=w.heap.size + 1 + 1) (ownsRow_heap hLo fun i hi => g6.heap i (hLo.lt i (by simpa using hi)).2 (by have:=(hLo.lt i (by simpa using hi)).1; simp; omega)) (by omega)⟩
 · have hzv:[ValN.num v0,ValN.num v1,ValN.num v2,ValN.lst L] = [ValN.num 0,ValN.num 0,ValN.num 0,ValN.lst []] ∧ (r = 3 ∨ r = 4):=by
    rcases HBAD.out with h | ⟨h1,h2⟩
    · exact absurd h r0
    · exact ⟨h1,h2⟩
   obtain ⟨hzv,_⟩:=hzv
   simp only [ValN.num.injEq,ValN.lst.injEq,List.cons.injEq,and_true] at hzv
   obtain ⟨rfl,rfl,rfl,rfl⟩:=hzv
   have d0:((r:Int) == 0) = false:=by rw [beq_eq_false_iff_ne]; omega
   go_enter Tryz.func134,Tryz.ntmps134
   go_wp2_with (first
    | (go_at_call 135; (with_reducible refine zs.mono ?_); rintro e wA ⟨x,rfl,g1,x0,x1,x2,x3,hR,hp⟩; have H1:=HH.out.quiet g1; have hq:=group_gets (B:=w.heap.size + 1) (by omega) H1.second hR hp s hs HR.out; have ent:∀ (args:Array Value) (w:World),(callFunc x.gf args).run Tryz.prog w = .ok (.enter x.gf args) w:=hq.1; have hq2:=hq.2; clear hq hR hp)
    | (go_at_fn x.gf; (with_reducible refine hq2.mono ?_); rintro e wB ⟨rfl,g2,hz⟩; have hX:=but_blk H1.head g2 (by omega); have hR3:=but_blk H1.drop.drop.head g2 (by omega))
    | (with_reducible refine wpList_load_row rfl 45 (.tmp 7) rfl (w.heap.size + 1 + 1) rfl 45 #[.int .i64 0,.int .u8 0,.int .i64 0,.slice none 0 0] (0,0) _ hX Tryz.underlying45 rfl (by kernel_rfl) ?_)
    | (with_reducible refine wpList_store_row rfl 45 (.tmp 4) (.tmp 16) rfl w.heap.size #[.int .i64 0,.int .u8 0,.int .i64 0,.slice none 0 0] rfl rfl 45 #[.int .i64 0,.int .u8 0,.int .i64 0,.slice none 0 0] hR3 (by kernel_rfl) rfl (by simp [Value.oneCell']) ?_; obtain ⟨g6,h6⟩:=setRow_facts #[.int .i64 0,.int .u8 0,.int .i64 0,.slice none 0 0] hR3))
   have hsz:wB.heap.size > w.heap.size:=by have:=g2.size; have:=(Array.getElem?_eq_some_iff.1 H1.drop.drop.head).1; omega
   have W5:Wider w wB:=g2.wider H1.wider (by intro i m; simp only [List.mem_singleton] at m; omega)
   have W6w:Wider w _:=g6.wider W5 (by intro i m; simp only [List.mem_singleton] at m; omega)
   have d100:=blk_cell h6 0 (v:=.int .i64 0) rfl
   have d101:=blk_cell h6 1 (v:=.int .u8 0) rfl
   have d102:=blk_cell h6 2 (v:=.int .i64 0) rfl
   have d103:=blk_cell h6 3 (v:=.slice none 0 0) rfl
   simp [bodyPost,results,Tryz.results134,go_sem,d100,d101,d102,d103]
   exact ⟨none,0,0,by simp,W6w,rfl,World.ownsRow_nil _ _ _ _⟩
theorem readGroup_c (s:ByteArray) (w:World) (hs:s.size < 1000000) {v0:Int} {v1:Int} {v2:Int} {L:List (List Int)} {r:Nat} (hr:decG csGroup s.data.toList = ([ValN.num v0,ValN.num v1,ValN.num v2,ValN.lst L],r)) :
 Calls Tryz.prog 88 #[.string s] w fun e w' => ∃ (A:Option Addr) (n cap:Nat),e = .returned (.tuple #[.agg #[.int .i64 v0,.int .u8 v1,.int .i64 v2,.slice A n cap],.int .i64 (r:Int)]) ∧ Wider w w' ∧ L.length = n ∧ w'.ownsRow w.heap.size 150 2 (.slice A n cap) n (cellsK ksBucket L):=by
 have H:=(Own.nil (Wider.refl w)).blk #[.int .i64 0,.int .u8 0,.int .i64 0,.slice none 0 0] 45
 have zr:=rdGroup_c s (w.alloc (.cells #[.int .i64 0,.int .u8 0,.int .i64 0,.slice none 0 0] 45)) hs hr
 have HH:=Lib.hid H
 clear hr H
 go_enter Tryz.func88,Tryz.ntmps88
 go_wp2_with (first
  | (go_at_call 134; (with_reducible refine zr.mono ?_); rintro e wB ⟨A,n,cap,rfl,g1,hLn,hLo⟩; have H1:=HH.out.quiet g1; have hR3:=H1.head)
  | (with_reducible refine wpList_store_row rfl 45 (.tmp 2) (.tmp 6) rfl w.heap.size #[.int .i64 v0,.int .u8 v1,.int .i64 v2,.slice A n cap] rfl rfl 45 #[.int .i64 0,.int .u8 0,.int .i64 0,.slice none 0 0] hR3 (by kernel_rfl) rfl (by simp [Value.oneCell']) ?_; obtain ⟨g6,h6⟩:=setRow_facts #[.int .i64 v0,.int .u8 v1,.int .i64 v2,.slice A n cap] hR3))
 have W6w:Wider w _:=g6.wider H1.wider (by intro i m; simp only [List.mem_singleton] at m; omega)
 have d100:=blk_cell h6 0 (v:=.int .i64 v0) rfl
 have d101:=blk_cell h6 1 (v:=.int .u8 v1) rfl
 have d102:=blk_cell h6 2 (v:=.int .i64 v2) rfl
 have d103:=blk_cell h6 3 (v:=.slice A n cap) rfl
 simp [bodyPost,results,Tryz.results88,go_sem,d100,d101,d102,d103]
 have hz:(w.alloc (.cells #[.int .i64 0,.int .u8 0,.int .i64 0,.slice none 0 0] 45)).heap.size = w.heap.size + 1:=by simp
 exact ⟨A,n,cap,by simp,W6w,hLn,ownsRow_less (ownsRow_heap hLo fun i hi => g6.heap i (hLo.lt i (by simpa using hi)).2 (by have:=(hLo.lt i (by simpa using hi)).1; simp; omega)) (by omega)⟩
def RepGroup (w:World) (c:Array Value) (vs:List ValN):Prop :=
 ∃ (v0 v1 v2:Int) (A:Option Addr) (n cap:Nat) (L:List (List Int)),c = #[.int .i64 v0,.int .u8 v1,.int .i64 v2,.slice A n cap] ∧ vs = [ValN.num v0,ValN.num v1,ValN.num v2,ValN.lst L] ∧ (Lit.int .i64 v0).wf = true ∧ (Lit.int .u8 v1).wf = true ∧ (Lit.int .i64 v2).wf = true ∧ RowAt w A 2 (rowsK ksBucket L) ∧ L.length = n ∧ n < 1000000 ∧ ∀ x ∈ L,wfK ksBucket x
theorem RepGroup.on {W w:World} {c:Array Value} {vs:List ValN} (h:RepGroup W c vs) (g:Wider W w):RepGroup w c vs:=by
 obtain ⟨v0,v1,v2,A,n,cap,L,rfl,rfl,w0,w1,w2,hA,hn,hn9,hL⟩:=h
 exact ⟨v0,v1,v2,A,n,cap,L,rfl,rfl,w0,w1,w2,hA.on g,hn,hn9,hL⟩
theorem RepGroup.size {w:World} {c:Array Value} {vs:List ValN} (h:RepGroup w c vs):c.size = 4:=by
 obtain ⟨v0,v1,v2,A,n,cap,L,rfl,rfl,w0,w1,w2,hA,hn,hn9,hL⟩:=h
 rfl
theorem RepGroup.put {w:World} {c:Array Value} {vs:List ValN} (h:RepGroup w c vs) {T:ByteArray} {r:Nat} (hr:PutG csGroup vs T r) :
 Calls Tryz.prog 117 #[.agg c] w fun e w' => e = .returned (.tuple #[.string T,.int .i64 (r:Int)]) ∧ Wider w w':=by
 obtain ⟨v0,v1,v2,A,n,cap,L,rfl,rfl,w0,w1,w2,hA,hn,hn9,hL⟩:=h
 exact putGroup_c w (w0:=w0) (w1:=w1) (w2:=w2) (hA:=hA) (hn:=hn) (hn9:=hn9) (hL:=hL) hr
theorem repGroup_read (s:ByteArray) (w:World) (hs:s.size < 1000000) {vs:List ValN} {r:Nat} (hr:decG csGroup s.data.toList = (vs,r)) :
 Calls Tryz.prog 88 #[.string s] w fun e w' => ∃ c,e = .returned (.tuple #[.agg c,.int .i64 (r:Int)]) ∧ Wider w w' ∧ ∀ W,Keeps w.heap.size w' W → RepGroup W c vs:=by
 have ok:=okG_dec csGroup hr
 match vs,ok with
 | [a0,a1,a2,a3],ok =>
   obtain ⟨⟨v0,rfl,q0⟩,⟨v1,rfl,q1⟩,⟨v2,rfl,q2⟩,⟨L,rfl,hL1,hL2⟩,_⟩:=ok
   refine (readGroup_c s w hs hr).mono ?_
   rintro e w1 ⟨A,n,cap,rfl,g,hn,hO⟩
   exact ⟨_,rfl,g,fun W kW => ⟨v0,v1,v2,A,n,cap,L,rfl,rfl,wf_i64 (by have q:=q0; exact ⟨q.1,Int.le_trans q.2 (by decide)⟩),wf_u8 (by have q:=q1; exact ⟨q.1,Int.le_trans q.2 (by decide)⟩),wf_i64 (by have q:=q2; exact ⟨q.1,Int.le_trans q.2 (by decide)⟩),rowK_own (ks:=ksBucket) rfl (by decide) hn (fun x hx => lenBucket x (hL2 x hx)) (ownsRow_heap hO fun i hi => kW.2 i (hO.lt i (by simpa using hi)).1 (hO.lt i (by simpa using hi)).2),hn,by omega,fun x hx => wfBucket (hL2 x hx)⟩⟩
theorem meter_s (w:World) (p:Addr) :
 Calls Tryz.prog 137 #[.pointer (some p)] w fun e w' => ∃ x:FnP,e = .returned (.agg #[.func (.func x.pf) #[] x.pc,.func (.func x.gf) #[] x.gc]) ∧ Wider w w' ∧ ∃ x0 x1 x2:FnP,RecAt w.heap.size w' x [x0,x1,x2] ∧ NumP .i64 2147483647 (by decide) w.heap.size w' x0 p ∧ NumP .i64 9223372036854775807 (by decide) w.heap.size w' x1 ⟨p.block,p.off + 1,none⟩ ∧ NumP .i64 9223372036854775807 (by decide) w.heap.size w' x2 ⟨p.block,p.off + 2,none⟩:=by
 have H:=(Own.nil (Wider.refl w)).blk #[.nilFunc,.nilFunc] 200
 have hs:(w.alloc (.cells #[.nilFunc,.nilFunc] 200)).heap.size = w.heap.size + 1:=by simp
 have b0:w.heap.size < (w.alloc (.cells #[.nilFunc,.nilFunc] 200)).drew.heap.size:=by show w.heap.size < (w.alloc _).heap.size; rw [hs]; omega
 have zr:∀ (W:World) (t:TypeId) (x0 x1 x2:FnP),w.heap.size < W.heap.size → Calls Tryz.prog 161 #[.slice (some ⟨W.heap.size,0,none⟩) 3 3] (W.alloc (.cells #[.func (.func x0.pf) #[] x0.pc,.func (.func x0.gf) #[] x0.gc,.func (.func x1.pf) #[] x1.pc,.func (.func x1.gf) #[] x1.gc,.func (.func x2.pf) #[] x2.pc,.func (.func x2.gf) #[] x2.gc] t)) fun e w' => ∃ x:FnP,e = .returned (.agg #[.func (.func x.pf) #[] x.pc,.func (.func x.gf) #[] x.gc]) ∧ Wider (W.alloc (.cells #[.func (.func x0.pf) #[] x0.pc,.func (.func x0.gf) #[] x0.gc,.func (.func x1.pf) #[] x1.pc,.func (.func x1.gf) #[] x1.gc,.func (.func x2.pf) #[] x2.pc,.func (.func x2.gf) #[] x2.gc] t)) w' ∧ RecAt (w.heap.size + 1) w' x [x0,x1,x2] :=
  fun W t x0 x1 x2 h => record_c _ (ps:=[x0,x1,x2]) (heap_alloc_new W _) rfl h
 have p0:=add0 p
 have B0:=Lib.hid b0
 have HH:=Lib.hid (H.quiet (Wider.refl _).drew)
 clear hs b0 H
 go_enter Tryz.func137,Tryz.ntmps137
 go_upto_region 1 with (fail)
 go_region_law (first
  | (go_simp; go_at_call 162; (with_reducible refine (owhole_c _ p).mono ?_); rintro e w1 ⟨x0,rfl,g0,h0⟩; have B1:Hid (w.heap.size < w1.heap.size):=Nat.lt_of_lt_of_le B0.out g0.2; have S0:=Lib.hid h0; have T0:=Lib.hid g0; clear h0 g0)
  | (go_simp; go_at_call 170; (with_reducible refine (osigned_c _ ⟨p.block,p.off + 1,none⟩).mono ?_); rintro e w2 ⟨x1,rfl,g1,h1⟩; have B2:Hid (w.heap.size < w2.heap.size):=Nat.lt_of_lt_of_le B1.out g1.2; have S1:=Lib.hid h1; have T1:=Lib.hid g1; clear h1 g1)
  | (go_simp; go_at_call 170; (with_reducible refine (osigned_c _ ⟨p.block,p.off + 2,none⟩).mono ?_); rintro e w3 ⟨x2,rfl,g2,h2⟩; have B3:Hid (w.heap.size < w3.heap.size):=Nat.lt_of_lt_of_le B2.out g2.2; have S2:=Lib.hid h2; have T2:=Lib.hid g2; clear h2 g2)
  | (go_simp; go_at_call 161; (with_reducible refine (zr _ _ x0 x1 x2 B3.out).mono ?_); rintro e wR ⟨xr,rfl,gR,hR⟩; have HW:=((((HH.out.quiet T0.out).quiet T1.out).quiet T2.out).quiet ((Wider.refl w3).alloc _)).quiet gR; have k0:=blk_cell HW.head 0 (v:=.nilFunc) rfl; have k1:=blk_cell HW.head 1 (v:=.nilFunc) rfl; have f0:=blk_free HW.head 0; have f1:=blk_free HW.head 1; have SR:=Lib.hid hR; have TR:=Lib.hid gR; clear hR gR))
 all_goals
  have H2:=(HW.store 0 (.func (.func xr.pf) #[] xr.pc)).store 1 (.func (.func xr.gf) #[] xr.gc)
  have d0:=blk_cell H2.head 0 (v:=.func (.func xr.pf) #[] xr.pc) rfl
  have d1:=blk_cell H2.head 1 (v:=.func (.func xr.gf) #[] xr.gc) rfl
  have KS:∀ b,w.heap.size < b → Keeps b wR ((wR.setCell ⟨w.heap.size,0,none⟩ (.func (.func xr.pf) #[] xr.pc)).setCell ⟨w.heap.size,1,none⟩ (.func (.func xr.gf) #[] xr.gc)):=fun b hb => (keeps_set wR hb).trans (keeps_set _ hb)
  clear k0 k1 f0 f1 HW
  go_wp2
  simp [bodyPost,results,Tryz.results137,go_sem,d0,d1]
  exact ⟨xr,⟨⟨rfl,rfl⟩,rfl,rfl⟩,H2.wider,x0,x1,x2,SR.out.on (KS _ (Nat.lt_succ_self _)) (Nat.le_succ _),S0.out.on (((((((Wider.refl w1).trans T1.out).trans T2.out).alloc _).trans TR.out).keeps _).trans (KS _ B0.out)) (Nat.le_of_lt B0.out),S1.out.on ((((((Wider.refl w2).trans T2.out).alloc _).trans TR.out).keeps _).trans (KS _ B1.out)) (Nat.le_of_lt B1.out),S2.out.on (((((Wider.refl w3).alloc _).trans TR.out).keeps _).trans (KS _ B2.out)) (Nat.le_of_lt B2.out)⟩
theorem meter_puts {w W:World} {x:FnP} {v0:Int} {v1:Int} {v2:Int} (w0:(Lit.int .i64 v0).wf = true) (w1:(Lit.int .i64 v1).wf = true) (w2:(Lit.int .i64 v2).wf = true) (hg:Wider w W) {B:Nat} (hB:W.heap[B]? = some (.cells #[.int .i64 v0,.int .i64 v1,.int .i64 v2] 47 (0,0)))
 {b0:Nat} {x0 x1 x2:FnP} (hR:RecAt b0 W x [x0,x1,x2]) (hp:NumP .i64 2147483647 (by decide) b0 W x0 (⟨B,0,none⟩ : Addr) ∧ NumP .i64 9223372036854775807 (by decide) b0 W x1 (⟨B,0 + 1,none⟩ : Addr) ∧ NumP .i64 9223372036854775807 (by decide) b0 W x2 (⟨B,0 + 2,none⟩ : Addr)) {T:ByteArray} {r:Nat} (hr:PutG csMeter [ValN.num v0,ValN.num v1,ValN.num v2] T r):Puts W x T r:=by
 obtain ⟨h0,h1,h2⟩:=hp
 refine recput_c hR rfl rfl (fun k p c y e1 e2 e3 T r h => ?_) (by decide) (by decide) (by decide) hr
 match k,e1,e2,e3 with
 | 0,e1,e2,e3 =>
   simp [csMeter] at e1 e2 e3
   subst e1 e2 e3
   exact h0.part.put W (Keeps.refl _ _) _ _ (blk_cell hB 0 rfl) ⟨_,rfl,rfl,w0⟩ T r h
 | 1,e1,e2,e3 =>
   simp [csMeter] at e1 e2 e3
   subst e1 e2 e3
   exact h1.part.put W (Keeps.refl _ _) _ _ (blk_cell hB 1 rfl) ⟨_,rfl,rfl,w1⟩ T r h
 | 2,e1,e2,e3 =>
   simp [csMeter] at e1 e2 e3
   subst e1 e2 e3
   exact h2.part.put W (Keeps.refl _ _) _ _ (blk_cell hB 2 rfl) ⟨_,rfl,rfl,w2⟩ T r h
 | k + 3,e1,e2,e3 => simp at e1
theorem putMeter_c (w:World) {v0:Int} {v1:Int} {v2:Int} (w0:(Lit.int .i64 v0).wf = true) (w1:(Lit.int .i64 v1).wf = true) (w2:(Lit.int .i64 v2).wf = true) {T:ByteArray} {r:Nat} (hr:PutG csMeter [ValN.num v0,ValN.num v1,ValN.num v2] T r) :
 Calls Tryz.prog 118 #[.agg #[.int .i64 v0,.int .i64 v1,.int .i64 v2]] w fun e w' => e = .returned (.tuple #[.string T,.int .i64 (r:Int)]) ∧ Wider w w':=by
 have H:=(Own.nil (Wider.refl w)).blk #[.int .i64 v0,.int .i64 v1,.int .i64 v2] 47
 have zs:=meter_s (w.alloc (.cells #[.int .i64 v0,.int .i64 v1,.int .i64 v2] 47)) ⟨w.heap.size,0,none⟩
 have hfp:=fld_put
 have HH:=Lib.hid H
 clear H
 go_enter Tryz.func118,Tryz.ntmps118
 go_wp2_with (first
  | (go_at_call 137; (with_reducible refine zs.mono ?_); rintro e wA ⟨x,rfl,g1,x0,x1,x2,hR,hp⟩; have hq:=meter_puts (w0:=w0) (w1:=w1) (w2:=w2) (((Wider.refl w).alloc _).trans g1) (HH.out.quiet g1).head hR hp hr; have ent:∀ (args:Array Value) (w:World),(callFunc x.pf args).run Tryz.prog w = .ok (.enter x.pf args) w:=hq.1; have hq2:=hq.2 wA (Wider.refl _); clear hq hR hp)
  | (go_at_fn x.pf; (with_reducible refine hq2.mono ?_); rintro e wB ⟨rfl,g2⟩))
 go_ret2
 exact ⟨rfl,(((Wider.refl w).alloc _).trans g1).trans g2⟩
end Go.Proofs.YtoopdhgmdjienaaGreatDoor
