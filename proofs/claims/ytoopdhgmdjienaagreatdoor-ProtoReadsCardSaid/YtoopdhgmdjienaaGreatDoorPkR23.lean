/- ORdMeter ORepMeter OKindRegs OTopRegs ORdRegs ORepRegs OMsgR -/
import Derived.Test.YtoopdhgmdjienaaGreatDoorPkR22
import Derived.Test.YtoopdhgmdjienaaGreatDoorPkR15
import Derived.Test.YtoopdhgmdjienaaGreatDoorPkR17
import Derived.Test.YtoopdhgmdjienaaGreatDoorPkR19
namespace Go.Proofs.YtoopdhgmdjienaaGreatDoor
set_option linter.unusedVariables false
set_option maxRecDepth 20000
open Go.ChangeShapes Go.WideShapes Go.ChangeAt Go.RowKit Go.Joins
open Go.ChangeMaps (open_string shut_string)
set_option maxHeartbeats 64000000
theorem meter_gets {W:World} {x:FnP} {B b0:Nat} (hb:B < b0) (hB:W.heap[B]? = some (.cells #[.int .i64 0,.int .i64 0,.int .i64 0] 47 (0,0)))
 {x0 x1 x2:FnP} (hR:RecAt b0 W x [x0,x1,x2]) (hp:NumP .i64 2147483647 (by decide) b0 W x0 (⟨B,0,none⟩ : Addr) ∧ NumP .i64 9223372036854775807 (by decide) b0 W x1 (⟨B,0 + 1,none⟩ : Addr) ∧ NumP .i64 9223372036854775807 (by decide) b0 W x2 (⟨B,0 + 2,none⟩ : Addr)) (s:ByteArray) (hs:s.size < 1000000) {v0:Int} {v1:Int} {v2:Int} {r:Nat} (hr:decG csMeter s.data.toList = ([ValN.num v0,ValN.num v1,ValN.num v2],r)) :
 Enters Tryz.prog x.gf ∧ Calls Tryz.prog x.gf (#[.string s] ++ x.gc) W fun e w' => e = .returned (.int .i64 (r:Int)) ∧ WBut [B] W w' ∧ (r = 0 → w'.heap[B]? = some (.cells #[.int .i64 v0,.int .i64 v1,.int .i64 v2] 47 (0,0))):=by
 obtain ⟨h0,h1,h2⟩:=hp
 have k:=recget_c (B:=B) hR (cs:=csMeter) (os:=[0,1,2]) (Rs:=[relV .i64,relV .i64,relV .i64]) rfl rfl rfl (by decide) (by
  intro R hR
  simp only [List.mem_cons,List.not_mem_nil,or_false] at hR
  rcases hR with rfl | rfl | rfl
  · exact relV_S _
  · exact relV_S _
  · exact relV_S _
  ) (by decide) (fun k p c o R e1 e2 e3 e4 => by
  match k,e1,e2,e3,e4 with
  | 0,e1,e2,e3,e4 =>
    simp [csMeter] at e1 e2 e3 e4
    subst e1 e2 e3 e4
    exact h0.part.get
  | 1,e1,e2,e3,e4 =>
    simp [csMeter] at e1 e2 e3 e4
    subst e1 e2 e3 e4
    exact h1.part.get
  | 2,e1,e2,e3,e4 =>
    simp [csMeter] at e1 e2 e3 e4
    subst e1 e2 e3 e4
    exact h2.part.get
  | k + 3,e1,e2,e3,e4 => simp at e1) hb
 refine ⟨k.1,(k.2 W _ _ (Keeps.refl _ _) hB (by decide) ?_ s hs _ r hr).mono ?_⟩
 · intro k o R y e1 e2 e3
   match k,e1,e2,e3 with
   | 0,e1,e2,e3 =>
     simp [csMeter,zeroG] at e1 e2 e3
     subst e1 e2 e3
     exact ⟨_,rfl,0,rfl,rfl⟩
   | 1,e1,e2,e3 =>
     simp [csMeter,zeroG] at e1 e2 e3
     subst e1 e2 e3
     exact ⟨_,rfl,0,rfl,rfl⟩
   | 2,e1,e2,e3 =>
     simp [csMeter,zeroG] at e1 e2 e3
     subst e1 e2 e3
     exact ⟨_,rfl,0,rfl,rfl⟩
   | k + 3,e1,e2,e3 => simp at e1
 · rintro e w3 ⟨rfl,g3,h⟩
   refine ⟨rfl,g3,fun h0 => ?_⟩
   obtain ⟨C',hC,hs',_,hst⟩:=h h0
   obtain ⟨u0,hu0,hv0⟩:=hst 0 0 _ _ rfl rfl rfl
   obtain ⟨n0,q0,rfl⟩:=hv0
   injection q0 with q0
   subst q0
   obtain ⟨u1,hu1,hv1⟩:=hst 1 1 _ _ rfl rfl rfl
   obtain ⟨n1,q1,rfl⟩:=hv1
   injection q1 with q1
   subst q1
   obtain ⟨u2,hu2,hv2⟩:=hst 2 2 _ _ rfl rfl rfl
   obtain ⟨n2,q2,rfl⟩:=hv2
   injection q2 with q2
   subst q2
   have e:C' = #[.int .i64 v0,.int .i64 v1,.int .i64 v2]:=by
    refine arr_of hs' fun i hi => ?_
    have hi:i < 3:=hi
    match i,hi with
    | 0,_ => exact hu0
    | 1,_ => exact hu1
    | 2,_ => exact hu2
    | i + 3,h => omega
   subst e
   exact hC
theorem rdMeter_c (s:ByteArray) (w:World) (hs:s.size < 1000000) {v0:Int} {v1:Int} {v2:Int} {r:Nat} (hr:decG csMeter s.data.toList = ([ValN.num v0,ValN.num v1,ValN.num v2],r)) :
 Calls Tryz.prog 136 #[.string s,.func (.func 137) #[] #[]] w fun e w' => e = .returned (.tuple #[.agg #[.int .i64 v0,.int .i64 v1,.int .i64 v2],.int .i64 (r:Int)]) ∧ Wider w w':=by
 have H:=(((Own.nil (Wider.refl w)).blk #[.int .i64 0,.int .i64 0,.int .i64 0] 47).blk #[.int .i64 0,.int .i64 0,.int .i64 0] 47).blk #[.int .i64 0,.int .i64 0,.int .i64 0] 47
 have z1:(w.alloc (.cells #[.int .i64 0,.int .i64 0,.int .i64 0] 47)).heap.size = w.heap.size + 1:=by simp
 have z2:((w.alloc (.cells #[.int .i64 0,.int .i64 0,.int .i64 0] 47)).alloc (.cells #[.int .i64 0,.int .i64 0,.int .i64 0] 47)).heap.size = w.heap.size + 2:=by simp
 rw [z1,z2] at H
 have z3:(((w.alloc (.cells #[.int .i64 0,.int .i64 0,.int .i64 0] 47)).alloc (.cells #[.int .i64 0,.int .i64 0,.int .i64 0] 47)).alloc (.cells #[.int .i64 0,.int .i64 0,.int .i64 0] 47)).heap.size = w.heap.size + 3:=by simp
 have zs:=meter_s (((w.alloc (.cells #[.int .i64 0,.int .i64 0,.int .i64 0] 47)).alloc (.cells #[.int .i64 0,.int .i64 0,.int .i64 0] 47)).alloc (.cells #[.int .i64 0,.int .i64 0,.int .i64 0] 47)) ⟨w.heap.size + 1,0,none⟩
 rw [z3] at zs
 have hbad:=decG_bad csMeter s.data.toList
 rw [hr] at hbad
 have hfg:=fld_get
 have HR:=Lib.hid hr
 have HBAD:=Lib.hid hbad
 have HH:=Lib.hid H
 clear z1 z2 z3 hr hbad H
 by_cases r0:r = 0
 · subst r0
   go_enter Tryz.func136,Tryz.ntmps136
   go_wp2_with (first
    | (go_at_call 137; (with_reducible refine zs.mono ?_); rintro e wA ⟨x,rfl,g1,x0,x1,x2,hR,hp⟩; have H1:=HH.out.quiet g1; have hq:=meter_gets (B:=w.heap.size + 1) (by omega) H1.second hR hp s hs HR.out; have ent:∀ (args:Array Value) (w:World),(callFunc x.gf args).run Tryz.prog w = .ok (.enter x.gf args) w:=hq.1; have hq2:=hq.2; clear hq hR hp)
    | (go_at_fn x.gf; (with_reducible refine hq2.mono ?_); rintro e wB ⟨rfl,g2,hz⟩; have hX:=hz (by trivial); have hR3:=but_blk H1.drop.drop.head g2 (by omega))
    | (with_reducible refine wpList_load_row rfl 47 (.tmp 6) rfl (w.heap.size + 1) rfl 47 #[.int .i64 v0,.int .i64 v1,.int .i64 v2] (0,0) _ hX Tryz.underlying47 rfl (by kernel_rfl) ?_)
    | (with_reducible refine wpList_store_row rfl 47 (.tmp 4) (.tmp 18) rfl w.heap.size #[.int .i64 v0,.int .i64 v1,.int .i64 v2] rfl rfl 47 #[.int .i64 0,.int .i64 0,.int .i64 0] hR3 (by kernel_rfl) rfl (by simp [Value.oneCell']) ?_; obtain ⟨g6,h6⟩:=setRow_facts #[.int .i64 v0,.int .i64 v1,.int .i64 v2] hR3))
   have hsz:wB.heap.size > w.heap.size:=by have:=g2.size; have:=(Array.getElem?_eq_some_iff.1 H1.drop.drop.head).1; omega
   have W5:Wider w wB:=g2.wider H1.wider (by intro i m; simp only [List.mem_singleton] at m; omega)
   have W6w:Wider w _:=g6.wider W5 (by intro i m; simp only [List.mem_singleton] at m; omega)
   have d100:=blk_cell h6 0 (v:=.int .i64 v0) rfl
   have d101:=blk_cell h6 1 (v:=.int .i64 v1) rfl
   have d102:=blk_cell h6 2 (v:=.int .i64 v2) rfl
   simp [bodyPost,results,Tryz.results136,go_sem,d100,d101,d102]
   exact W6w
 · have hzv:[ValN.num v0,ValN.num v1,ValN.num v2] = [ValN.num 0,ValN.num 0,ValN.num 0] ∧ (r = 3 ∨ r = 4):=by
    rcases HBAD.out with h | ⟨h1,h2⟩
    · exact absurd h r0
    · exact ⟨h1,h2⟩
   obtain ⟨hzv,_⟩:=hzv
   simp only [ValN.num.injEq,List.cons.injEq,and_true] at hzv
   obtain ⟨rfl,rfl,rfl⟩:=hzv
   have d0:((r:Int) == 0) = false:=by rw [beq_eq_false_iff_ne]; omega
   go_enter Tryz.func136,Tryz.ntmps136
   go_wp2_with (first
    | (go_at_call 137; (with_reducible refine zs.mono ?_); rintro e wA ⟨x,rfl,g1,x0,x1,x2,hR,hp⟩; have H1:=HH.out.quiet g1; have hq:=meter_gets (B:=w.heap.size + 1) (by omega) H1.second hR hp s hs HR.out; have ent:∀ (args:Array Value) (w:World),(callFunc x.gf args).run Tryz.prog w = .ok (.enter x.gf args) w:=hq.1; have hq2:=hq.2; clear hq hR hp)
    | (go_at_fn x.gf; (with_reducible refine hq2.mono ?_); rintro e wB ⟨rfl,g2,hz⟩; have hX:=but_blk H1.head g2 (by omega); have hR3:=but_blk H1.drop.drop.head g2 (by omega))
    | (with_reducible refine wpList_load_row rfl 47 (.tmp 7) rfl (w.heap.size + 1 + 1) rfl 47 #[.int .i64 0,.int .i64 0,.int .i64 0] (0,0) _ hX Tryz.underlying47 rfl (by kernel_rfl) ?_)
    | (with_reducible refine wpList_store_row rfl 47 (.tmp 4) (.tmp 16) rfl w.heap.size #[.int .i64 0,.int .i64 0,.int .i64 0] rfl rfl 47 #[.int .i64 0,.int .i64 0,.int .i64 0] hR3 (by kernel_rfl) rfl (by simp [Value.oneCell']) ?_; obtain ⟨g6,h6⟩:=setRow_facts #[.int .i64 0,.int .i64 0,.int .i64 0] hR3))
   have hsz:wB.heap.size > w.heap.size:=by have:=g2.size; have:=(Array.getElem?_eq_some_iff.1 H1.drop.drop.head).1; omega
   have W5:Wider w wB:=g2.wider H1.wider (by intro i m; simp only [List.mem_singleton] at m; omega)
   have W6w:Wider w _:=g6.wider W5 (by intro i m; simp only [List.mem_singleton] at m; omega)
   have d100:=blk_cell h6 0 (v:=.int .i64 0) rfl
   have d101:=blk_cell h6 1 (v:=.int .i64 0) rfl
   have d102:=blk_cell h6 2 (v:=.int .i64 0) rfl
   simp [bodyPost,results,Tryz.results136,go_sem,d100,d101,d102]
   exact W6w
theorem readMeter_c (s:ByteArray) (w:World) (hs:s.size < 1000000) {v0:Int} {v1:Int} {v2:Int} {r:Nat} (hr:decG csMeter s.data.toList = ([ValN.num v0,ValN.num v1,ValN.num v2],r)) :
 Calls Tryz.prog 89 #[.string s] w fun e w' => e = .returned (.tuple #[.agg #[.int .i64 v0,.int .i64 v1,.int .i64 v2],.int .i64 (r:Int)]) ∧ Wider w w':=by
 have H:=(Own.nil (Wider.refl w)).blk #[.int .i64 0,.int .i64 0,.int .i64 0] 47
 have zr:=rdMeter_c s (w.alloc (.cells #[.int .i64 0,.int .i64 0,.int .i64 0] 47)) hs hr
 have HH:=Lib.hid H
 clear hr H
 go_enter Tryz.func89,Tryz.ntmps89
 go_wp2_with (first
  | (go_at_call 136; (with_reducible refine zr.mono ?_); rintro e wB ⟨rfl,g1⟩; have H1:=HH.out.quiet g1; have hR3:=H1.head)
  | (with_reducible refine wpList_store_row rfl 47 (.tmp 2) (.tmp 6) rfl w.heap.size #[.int .i64 v0,.int .i64 v1,.int .i64 v2] rfl rfl 47 #[.int .i64 0,.int .i64 0,.int .i64 0] hR3 (by kernel_rfl) rfl (by simp [Value.oneCell']) ?_; obtain ⟨g6,h6⟩:=setRow_facts #[.int .i64 v0,.int .i64 v1,.int .i64 v2] hR3))
 have W6w:Wider w _:=g6.wider H1.wider (by intro i m; simp only [List.mem_singleton] at m; omega)
 have d100:=blk_cell h6 0 (v:=.int .i64 v0) rfl
 have d101:=blk_cell h6 1 (v:=.int .i64 v1) rfl
 have d102:=blk_cell h6 2 (v:=.int .i64 v2) rfl
 simp [bodyPost,results,Tryz.results89,go_sem,d100,d101,d102]
 exact W6w
def RepMeter (w:World) (c:Array Value) (vs:List ValN):Prop :=
 ∃ (v0 v1 v2:Int),c = #[.int .i64 v0,.int .i64 v1,.int .i64 v2] ∧ vs = [ValN.num v0,ValN.num v1,ValN.num v2] ∧ (Lit.int .i64 v0).wf = true ∧ (Lit.int .i64 v1).wf = true ∧ (Lit.int .i64 v2).wf = true
theorem RepMeter.on {W w:World} {c:Array Value} {vs:List ValN} (h:RepMeter W c vs) (g:Wider W w):RepMeter w c vs:=by
 obtain ⟨v0,v1,v2,rfl,rfl,w0,w1,w2⟩:=h
 exact ⟨v0,v1,v2,rfl,rfl,w0,w1,w2⟩
theorem RepMeter.size {w:World} {c:Array Value} {vs:List ValN} (h:RepMeter w c vs):c.size = 3:=by
 obtain ⟨v0,v1,v2,rfl,rfl,w0,w1,w2⟩:=h
 rfl
theorem RepMeter.put {w:World} {c:Array Value} {vs:List ValN} (h:RepMeter w c vs) {T:ByteArray} {r:Nat} (hr:PutG csMeter vs T r) :
 Calls Tryz.prog 118 #[.agg c] w fun e w' => e = .returned (.tuple #[.string T,.int .i64 (r:Int)]) ∧ Wider w w':=by
 obtain ⟨v0,v1,v2,rfl,rfl,w0,w1,w2⟩:=h
 exact putMeter_c w (w0:=w0) (w1:=w1) (w2:=w2) hr
theorem repMeter_read (s:ByteArray) (w:World) (hs:s.size < 1000000) {vs:List ValN} {r:Nat} (hr:decG csMeter s.data.toList = (vs,r)) :
 Calls Tryz.prog 89 #[.string s] w fun e w' => ∃ c,e = .returned (.tuple #[.agg c,.int .i64 (r:Int)]) ∧ Wider w w' ∧ ∀ W,Keeps w.heap.size w' W → RepMeter W c vs:=by
 have ok:=okG_dec csMeter hr
 match vs,ok with
 | [a0,a1,a2],ok =>
   obtain ⟨⟨v0,rfl,q0⟩,⟨v1,rfl,q1⟩,⟨v2,rfl,q2⟩,_⟩:=ok
   refine (readMeter_c s w hs hr).mono ?_
   rintro e w1 ⟨rfl,g⟩
   exact ⟨_,rfl,g,fun W kW => ⟨v0,v1,v2,rfl,rfl,wf_i64 (by have q:=q0; exact ⟨q.1,Int.le_trans q.2 (by decide)⟩),wf_i64 (by have q:=q1; exact ⟨q.1,Int.le_trans q.2 (by decide)⟩),wf_i64 (by have q:=q2; exact ⟨q.1,Int.le_trans q.2 (by decide)⟩)⟩⟩
theorem regs_s (w:World) (p:Addr) :
 Calls Tryz.prog 139 #[.pointer (some p)] w fun e w' => ∃ x:FnP,e = .returned (.agg #[.func (.func x.pf) #[] x.pc,.func (.func x.gf) #[] x.gc]) ∧ Wider w w' ∧ ∃ x0 x1:FnP,RecAt w.heap.size w' x [x0,x1] ∧ NumP .i64 2147483647 (by decide) w.heap.size w' x0 p ∧ NumP .i64 2147483647 (by decide) w.heap.size w' x1 ⟨p.block,p.off + 1,none⟩:=by
 have H:=(Own.nil (Wider.refl w)).blk #[.nilFunc,.nilFunc] 200
 have hs:(w.alloc (.cells #[.nilFunc,.nilFunc] 200)).heap.size = w.heap.size + 1:=by simp
 have b0:w.heap.size < (w.alloc (.cells #[.nilFunc,.nilFunc] 200)).drew.heap.size:=by show w.heap.size < (w.alloc _).heap.size; rw [hs]; omega
 have zr:∀ (W:World) (t:TypeId) (x0 x1:FnP),w.heap.size < W.heap.size → Calls Tryz.prog 161 #[.slice (some ⟨W.heap.size,0,none⟩) 2 2] (W.alloc (.cells #[.func (.func x0.pf) #[] x0.pc,.func (.func x0.gf) #[] x0.gc,.func (.func x1.pf) #[] x1.pc,.func (.func x1.gf) #[] x1.gc] t)) fun e w' => ∃ x:FnP,e = .returned (.agg #[.func (.func x.pf) #[] x.pc,.func (.func x.gf) #[] x.gc]) ∧ Wider (W.alloc (.cells #[.func (.func x0.pf) #[] x0.pc,.func (.func x0.gf) #[] x0.gc,.func (.func x1.pf) #[] x1.pc,.func (.func x1.gf) #[] x1.gc] t)) w' ∧ RecAt (w.heap.size + 1) w' x [x0,x1] :=
  fun W t x0 x1 h => record_c _ (ps:=[x0,x1]) (heap_alloc_new W _) rfl h
 have p0:=add0 p
 have B0:=Lib.hid b0
 have HH:=Lib.hid (H.quiet (Wider.refl _).drew)
 clear hs b0 H
 go_enter Tryz.func139,Tryz.ntmps139
 go_upto_region 1 with (fail)
 go_region_law (first
  | (go_simp; go_at_call 162; (with_reducible refine (owhole_c _ p).mono ?_); rintro e w1 ⟨x0,rfl,g0,h0⟩; have B1:Hid (w.heap.size < w1.heap.size):=Nat.lt_of_lt_of_le B0.out g0.2; have S0:=Lib.hid h0; have T0:=Lib.hid g0; clear h0 g0)
  | (go_simp; go_at_call 162; (with_reducible refine (owhole_c _ ⟨p.block,p.off + 1,none⟩).mono ?_); rintro e w2 ⟨x1,rfl,g1,h1⟩; have B2:Hid (w.heap.size < w2.heap.size):=Nat.lt_of_lt_of_le B1.out g1.2; have S1:=Lib.hid h1; have T1:=Lib.hid g1; clear h1 g1)
  | (go_simp; go_at_call 161; (with_reducible refine (zr _ _ x0 x1 B2.out).mono ?_); rintro e wR ⟨xr,rfl,gR,hR⟩; have HW:=(((HH.out.quiet T0.out).quiet T1.out).quiet ((Wider.refl w2).alloc _)).quiet gR; have k0:=blk_cell HW.head 0 (v:=.nilFunc) rfl; have k1:=blk_cell HW.head 1 (v:=.nilFunc) rfl; have f0:=blk_free HW.head 0; have f1:=blk_free HW.head 1; have SR:=Lib.hid hR; have TR:=Lib.hid gR; clear hR gR))
 all_goals
  have H2:=(HW.store 0 (.func (.func xr.pf) #[] xr.pc)).store 1 (.func (.func xr.gf) #[] xr.gc)
  have d0:=blk_cell H2.head 0 (v:=.func (.func xr.pf) #[] xr.pc) rfl
  have d1:=blk_cell H2.head 1 (v:=.func (.func xr.gf) #[] xr.gc) rfl
  have KS:∀ b,w.heap.size < b → Keeps b wR ((wR.setCell ⟨w.heap.size,0,none⟩ (.func (.func xr.pf) #[] xr.pc)).setCell ⟨w.heap.size,1,none⟩ (.func (.func xr.gf) #[] xr.gc)):=fun b hb => (keeps_set wR hb).trans (keeps_set _ hb)
  clear k0 k1 f0 f1 HW
  go_wp2
  simp [bodyPost,results,Tryz.results139,go_sem,d0,d1]
  exact ⟨xr,⟨⟨rfl,rfl⟩,rfl,rfl⟩,H2.wider,x0,x1,SR.out.on (KS _ (Nat.lt_succ_self _)) (Nat.le_succ _),S0.out.on ((((((Wider.refl w1).trans T1.out).alloc _).trans TR.out).keeps _).trans (KS _ B0.out)) (Nat.le_of_lt B0.out),S1.out.on (((((Wider.refl w2).alloc _).trans TR.out).keeps _).trans (KS _ B1.out)) (Nat.le_of_lt B1.out)⟩
theorem regs_puts {w W:World} {x:FnP} {v0:Int} {v1:Int} (w0:(Lit.int .i64 v0).wf = true) (w1:(Lit.int .i64 v1).wf = true) (hg:Wider w W) {B:Nat} (hB:W.heap[B]? = some (.cells #[.int .i64 v0,.int .i64 v1] 49 (0,0)))
 {b0:Nat} {x0 x1:FnP} (hR:RecAt b0 W x [x0,x1]) (hp:NumP .i64 2147483647 (by decide) b0 W x0 (⟨B,0,none⟩ : Addr) ∧ NumP .i64 2147483647 (by decide) b0 W x1 (⟨B,0 + 1,none⟩ : Addr)) {T:ByteArray} {r:Nat} (hr:PutG csRegs [ValN.num v0,ValN.num v1] T r):Puts W x T r:=by
 obtain ⟨h0,h1⟩:=hp
 refine recput_c hR rfl rfl (fun k p c y e1 e2 e3 T r h => ?_) (by decide) (by decide) (by decide) hr
 match k,e1,e2,e3 with
 | 0,e1,e2,e3 =>
   simp [csRegs] at e1 e2 e3
   subst e1 e2 e3
   exact h0.part.put W (Keeps.refl _ _) _ _ (blk_cell hB 0 rfl) ⟨_,rfl,rfl,w0⟩ T r h
 | 1,e1,e2,e3 =>
   simp [csRegs] at e1 e2 e3
   subst e1 e2 e3
   exact h1.part.put W (Keeps.refl _ _) _ _ (blk_cell hB 1 rfl) ⟨_,rfl,rfl,w1⟩ T r h
 | k + 2,e1,e2,e3 => simp at e1
theorem putRegs_c (w:World) {v0:Int} {v1:Int} (w0:(Lit.int .i64 v0).wf = true) (w1:(Lit.int .i64 v1).wf = true) {T:ByteArray} {r:Nat} (hr:PutG csRegs [ValN.num v0,ValN.num v1] T r) :
 Calls Tryz.prog 119 #[.agg #[.int .i64 v0,.int .i64 v1]] w fun e w' => e = .returned (.tuple #[.string T,.int .i64 (r:Int)]) ∧ Wider w w':=by
 have H:=(Own.nil (Wider.refl w)).blk #[.int .i64 v0,.int .i64 v1] 49
 have zs:=regs_s (w.alloc (.cells #[.int .i64 v0,.int .i64 v1] 49)) ⟨w.heap.size,0,none⟩
 have hfp:=fld_put
 have HH:=Lib.hid H
 clear H
 go_enter Tryz.func119,Tryz.ntmps119
 go_wp2_with (first
  | (go_at_call 139; (with_reducible refine zs.mono ?_); rintro e wA ⟨x,rfl,g1,x0,x1,hR,hp⟩; have hq:=regs_puts (w0:=w0) (w1:=w1) (((Wider.refl w).alloc _).trans g1) (HH.out.quiet g1).head hR hp hr; have ent:∀ (args:Array Value) (w:World),(callFunc x.pf args).run Tryz.prog w = .ok (.enter x.pf args) w:=hq.1; have hq2:=hq.2 wA (Wider.refl _); clear hq hR hp)
  | (go_at_fn x.pf; (with_reducible refine hq2.mono ?_); rintro e wB ⟨rfl,g2⟩))
 go_ret2
 exact ⟨rfl,(((Wider.refl w).alloc _).trans g1).trans g2⟩
theorem regs_gets {W:World} {x:FnP} {B b0:Nat} (hb:B < b0) (hB:W.heap[B]? = some (.cells #[.int .i64 0,.int .i64 0] 49 (0,0)))
 {x0 x1:FnP} (hR:RecAt b0 W x [x0,x1]) (hp:NumP .i64 2147483647 (by decide) b0 W x0 (⟨B,0,none⟩ : Addr) ∧ NumP .i64 2147483647 (by decide) b0 W x1 (⟨B,0 + 1,none⟩ : Addr)) (s:ByteArray) (hs:s.size < 1000000) {v0:Int} {v1:Int} {r:Nat} (hr:decG csRegs s.data.toList = ([ValN.num v0,ValN.num v1],r)) :
 Enters Tryz.prog x.gf ∧ Calls Tryz.prog x.gf (#[.string s] ++ x.gc) W fun e w' => e = .returned (.int .i64 (r:Int)) ∧ WBut [B] W w' ∧ (r = 0 → w'.heap[B]? = some (.cells #[.int .i64 v0,.int .i64 v1] 49 (0,0))):=by
 obtain ⟨h0,h1⟩:=hp
 have k:=recget_c (B:=B) hR (cs:=csRegs) (os:=[0,1]) (Rs:=[relV .i64,relV .i64]) rfl rfl rfl (by decide) (by
  intro R hR
  simp only [List.mem_cons,List.not_mem_nil,or_false] at hR
  rcases hR with rfl | rfl
  · exact relV_S _
  · exact relV_S _
  ) (by decide) (fun k p c o R e1 e2 e3 e4 => by
  match k,e1,e2,e3,e4 with
  | 0,e1,e2,e3,e4 =>
    simp [csRegs] at e1 e2 e3 e4
    subst e1 e2 e3 e4
    exact h0.part.get
  | 1,e1,e2,e3,e4 =>
    simp [csRegs] at e1 e2 e3 e4
    subst e1 e2 e3 e4
    exact h1.part.get
  | k + 2,e1,e2,e3,e4 => simp at e1) hb
 refine ⟨k.1,(k.2 W _ _ (Keeps.refl _ _) hB (by decide) ?_ s hs _ r hr).mono ?_⟩
 · intro k o R y e1 e2 e3
   match k,e1,e2,e3 with
   | 0,e1,e2,e3 =>
     simp [csRegs,zeroG] at e1 e2 e3
     subst e1 e2 e3
     exact ⟨_,rfl,0,rfl,rfl⟩
   | 1,e1,e2,e3 =>
     simp [csRegs,zeroG] at e1 e2 e3
     subst e1 e2 e3
     exact ⟨_,rfl,0,rfl,rfl⟩
   | k + 2,e1,e2,e3 => simp at e1
 · rintro e w3 ⟨rfl,g3,h⟩
   refine ⟨rfl,g3,fun h0 => ?_⟩
   obtain ⟨C',hC,hs',_,hst⟩:=h h0
   obtain ⟨u0,hu0,hv0⟩:=hst 0 0 _ _ rfl rfl rfl
   obtain ⟨n0,q0,rfl⟩:=hv0
   injection q0 with q0
   subst q0
   obtain ⟨u1,hu1,hv1⟩:=hst 1 1 _ _ rfl rfl rfl
   obtain ⟨n1,q1,rfl⟩:=hv1
   injection q1 with q1
   subst q1
   have e:C' = #[.int .i64 v0,.int .i64 v1]:=by
    refine arr_of hs' fun i hi => ?_
    have hi:i < 2:=hi
    match i,hi with
    | 0,_ => exact hu0
    | 1,_ => exact hu1
    | i + 2,h => omega
   subst e
   exact hC
theorem rdRegs_c (s:ByteArray) (w:World) (hs:s.size < 1000000) {v0:Int} {v1:Int} {r:Nat} (hr:decG csRegs s.data.toList = ([ValN.num v0,ValN.num v1],r)) :
 Calls Tryz.prog 138 #[.string s,.func (.func 139) #[] #[]] w fun e w' => e = .returned (.tuple #[.agg #[.int .i64 v0,.int .i64 v1],.int .i64 (r:Int)]) ∧ Wider w w':=by
 have H:=(((Own.nil (Wider.refl w)).blk #[.int .i64 0,.int .i64 0] 49).blk #[.int .i64 0,.int .i64 0] 49).blk #[.int .i64 0,.int .i64 0] 49
 have z1:(w.alloc (.cells #[.int .i64 0,.int .i64 0] 49)).heap.size = w.heap.size + 1:=by simp
 have z2:((w.alloc (.cells #[.int .i64 0,.int .i64 0] 49)).alloc (.cells #[.int .i64 0,.int .i64 0] 49)).heap.size = w.heap.size + 2:=by simp
 rw [z1,z2] at H
 have z3:(((w.alloc (.cells #[.int .i64 0,.int .i64 0] 49)).alloc (.cells #[.int .i64 0,.int .i64 0] 49)).alloc (.cells #[.int .i64 0,.int .i64 0] 49)).heap.size = w.heap.size + 3:=by simp
 have zs:=regs_s (((w.alloc (.cells #[.int .i64 0,.int .i64 0] 49)).alloc (.cells #[.int .i64 0,.int .i64 0] 49)).alloc (.cells #[.int .i64 0,.int .i64 0] 49)) ⟨w.heap.size + 1,0,none⟩
 rw [z3] at zs
 have hbad:=decG_bad csRegs s.data.toList
 rw [hr] at hbad
 have hfg:=fld_get
 have HR:=Lib.hid hr
 have HBAD:=Lib.hid hbad
 have HH:=Lib.hid H
 clear z1 z2 z3 hr hbad H
 by_cases r0:r = 0
 · subst r0
   go_enter Tryz.func138,Tryz.ntmps138
   go_wp2_with (first
    | (go_at_call 139; (with_reducible refine zs.mono ?_); rintro e wA ⟨x,rfl,g1,x0,x1,hR,hp⟩; have H1:=HH.out.quiet g1; have hq:=regs_gets (B:=w.heap.size + 1) (by omega) H1.second hR hp s hs HR.out; have ent:∀ (args:Array Value) (w:World),(callFunc x.gf args).run Tryz.prog w = .ok (.enter x.gf args) w:=hq.1; have hq2:=hq.2; clear hq hR hp)
    | (go_at_fn x.gf; (with_reducible refine hq2.mono ?_); rintro e wB ⟨rfl,g2,hz⟩; have hX:=hz (by trivial); have hR3:=but_blk H1.drop.drop.head g2 (by omega))
    | (with_reducible refine wpList_load_row rfl 49 (.tmp 6) rfl (w.heap.size + 1) rfl 49 #[.int .i64 v0,.int .i64 v1] (0,0) _ hX Tryz.underlying49 rfl (by kernel_rfl) ?_)
    | (with_reducible refine wpList_store_row rfl 49 (.tmp 4) (.tmp 18) rfl w.heap.size #[.int .i64 v0,.int .i64 v1] rfl rfl 49 #[.int .i64 0,.int .i64 0] hR3 (by kernel_rfl) rfl (by simp [Value.oneCell']) ?_; obtain ⟨g6,h6⟩:=setRow_facts #[.int .i64 v0,.int .i64 v1] hR3))
   have hsz:wB.heap.size > w.heap.size:=by have:=g2.size; have:=(Array.getElem?_eq_some_iff.1 H1.drop.drop.head).1; omega
   have W5:Wider w wB:=g2.wider H1.wider (by intro i m; simp only [List.mem_singleton] at m; omega)
   have W6w:Wider w _:=g6.wider W5 (by intro i m; simp only [List.mem_singleton] at m; omega)
   have d100:=blk_cell h6 0 (v:=.int .i64 v0) rfl
   have d101:=blk_cell h6 1 (v:=.int .i64 v1) rfl
   simp [bodyPost,results,Tryz.results138,go_sem,d100,d101]
   exact W6w
 · have hzv:[ValN.num v0,ValN.num v1] = [ValN.num 0,ValN.num 0] ∧ (r = 3 ∨ r = 4):=by
    rcases HBAD.out with h | ⟨h1,h2⟩
    · exact absurd h r0
    · exact ⟨h1,h2⟩
   obtain ⟨hzv,_⟩:=hzv
   simp only [ValN.num.injEq,List.cons.injEq,and_true] at hzv
   obtain ⟨rfl,rfl⟩:=hzv
   have d0:((r:Int) == 0) = false:=by rw [beq_eq_false_iff_ne]; omega
   go_enter Tryz.func138,Tryz.ntmps138
   go_wp2_with (first
    | (go_at_call 139; (with_reducible refine zs.mono ?_); rintro e wA ⟨x,rfl,g1,x0,x1,hR,hp⟩; have H1:=HH.out.quiet g1; have hq:=regs_gets (B:=w.heap.size + 1) (by omega) H1.second hR hp s hs HR.out; have ent:∀ (args:Array Value) (w:World),(callFunc x.gf args).run Tryz.prog w = .ok (.enter x.gf args) w:=hq.1; have hq2:=hq.2; clear hq hR hp)
    | (go_at_fn x.gf; (with_reducible refine hq2.mono ?_); rintro e wB ⟨rfl,g2,hz⟩; have hX:=but_blk H1.head g2 (by omega); have hR3:=but_blk H1.drop.drop.head g2 (by omega))
    | (with_reducible refine wpList_load_row rfl 49 (.tmp 7) rfl (w.heap.size + 1 + 1) rfl 49 #[.int .i64 0,.int .i64 0] (0,0) _ hX Tryz.underlying49 rfl (by kernel_rfl) ?_)
    | (with_reducible refine wpList_store_row rfl 49 (.tmp 4) (.tmp 16) rfl w.heap.size #[.int .i64 0,.int .i64 0] rfl rfl 49 #[.int .i64 0,.int .i64 0] hR3 (by kernel_rfl) rfl (by simp [Value.oneCell']) ?_; obtain ⟨g6,h6⟩:=setRow_facts #[.int .i64 0,.int .i64 0] hR3))
   have hsz:wB.heap.size > w.heap.size:=by have:=g2.size; have:=(Array.getElem?_eq_some_iff.1 H1.drop.drop.head).1; omega
   have W5:Wider w wB:=g2.wider H1.wider (by intro i m; simp only [List.mem_singleton] at m; omega)
   have W6w:Wider w _:=g6.wider W5 (by intro i m; simp only [List.mem_singleton] at m; omega)
   have d100:=blk_cell h6 0 (v:=.int .i64 0) rfl
   have d101:=blk_cell h6 1 (v:=.int .i64 0) rfl
   simp [bodyPost,results,Tryz.results138,go_sem,d100,d101]
   exact W6w
theorem readRegs_c (s:ByteArray) (w:World) (hs:s.size < 1000000) {v0:Int} {v1:Int} {r:Nat} (hr:decG csRegs s.data.toList = ([ValN.num v0,ValN.num v1],r)) :
 Calls Tryz.prog 90 #[.string s] w fun e w' => e = .returned (.tuple #[.agg #[.int .i64 v0,.int .i64 v1],.int .i64 (r:Int)]) ∧ Wider w w':=by
 have H:=(Own.nil (Wider.refl w)).blk #[.int .i64 0,.int .i64 0] 49
 have zr:=rdRegs_c s (w.alloc (.cells #[.int .i64 0,.int .i64 0] 49)) hs hr
 have HH:=Lib.hid H
 clear hr H
 go_enter Tryz.func90,Tryz.ntmps90
 go_wp2_with (first
  | (go_at_call 138; (with_reducible refine zr.mono ?_); rintro e wB ⟨rfl,g1⟩; have H1:=HH.out.quiet g1; have hR3:=H1.head)
  | (with_reducible refine wpList_store_row rfl 49 (.tmp 2) (.tmp 6) rfl w.heap.size #[.int .i64 v0,.int .i64 v1] rfl rfl 49 #[.int .i64 0,.int .i64 0] hR3 (by kernel_rfl) rfl (by simp [Value.oneCell']) ?_; obtain ⟨g6,h6⟩:=setRow_facts #[.int .i64 v0,.int .i64 v1] hR3))
 have W6w:Wider w _:=g6.wider H1.wider (by intro i m; simp only [List.mem_singleton] at m; omega)
 have d100:=blk_cell h6 0 (v:=.int .i64 v0) rfl
 have d101:=blk_cell h6 1 (v:=.int .i64 v1) rfl
 simp [bodyPost,results,Tryz.results90,go_sem,d100,d101]
 exact W6w
def RepRegs (w:World) (c:Array Value) (vs:List ValN):Prop :=
 ∃ (v0 v1:Int),c = #[.int .i64 v0,.int .i64 v1] ∧ vs = [ValN.num v0,ValN.num v1] ∧ (Lit.int .i64 v0).wf = true ∧ (Lit.int .i64 v1).wf = true
theorem RepRegs.on {W w:World} {c:Array Value} {vs:List ValN} (h:RepRegs W c vs) (g:Wider W w):RepRegs w c vs:=by
 obtain ⟨v0,v1,rfl,rfl,w0,w1⟩:=h
 exact ⟨v0,v1,rfl,rfl,w0,w1⟩
theorem RepRegs.size {w:World} {c:Array Value} {vs:List ValN} (h:RepRegs w c vs):c.size = 2:=by
 obtain ⟨v0,v1,rfl,rfl,w0,w1⟩:=h
 rfl
theorem RepRegs.put {w:World} {c:Array Value} {vs:List ValN} (h:RepRegs w c vs) {T:ByteArray} {r:Nat} (hr:PutG csRegs vs T r) :
 Calls Tryz.prog 119 #[.agg c] w fun e w' => e = .returned (.tuple #[.string T,.int .i64 (r:Int)]) ∧ Wider w w':=by
 obtain ⟨v0,v1,rfl,rfl,w0,w1⟩:=h
 exact putRegs_c w (w0:=w0) (w1:=w1) hr
theorem repRegs_read (s:ByteArray) (w:World) (hs:s.size < 1000000) {vs:List ValN} {r:Nat} (hr:decG csRegs s.data.toList = (vs,r)) :
 Calls Tryz.prog 90 #[.string s] w fun e w' => ∃ c,e = .returned (.tuple #[.agg c,.int .i64 (r:Int)]) ∧ Wider w w' ∧ ∀ W,Keeps w.heap.size w' W → RepRegs W c vs:=by
 have ok:=okG_dec csRegs hr
 match vs,ok with
 | [a0,a1],ok =>
   obtain ⟨⟨v0,rfl,q0⟩,⟨v1,rfl,q1⟩,_⟩:=ok
   refine (readRegs_c s w hs hr).mono ?_
   rintro e w1 ⟨rfl,g⟩
   exact ⟨_,rfl,g,fun W kW => ⟨v0,v1,rfl,rfl,wf_i64 (by have q:=q0; exact ⟨q.1,Int.le_trans q.2 (by decide)⟩),wf_i64 (by have q:=q1; exact ⟨q.1,Int.le_trans q.2 (by decide)⟩)⟩⟩
abbrev zM:Array Value:=#[.int .u8 0,.int .u32 0,.int .i64 0,.int .i64 0,.int .i64 0,.int .i64 0,.int .i64 0,.int .u64 0,.int .u64 0,.string ⟨#[]⟩,.slice none 0 0,.int .i64 0,.int .i64 0,.int .i64 0,.int .i64 0,.int .i64 0,.int .i64 0,.int .i64 0,.slice none 0 0,.int .i64 0,.int .i64 0,.int .u8 0,.int .i64 0,.int .i64 0,.int .i64 0,.int .i64 0,.int .u8 0,.slice none 0 0,.int .i64 0,.int .i64 0,.int .i64 0,.string ⟨#[]⟩,.string ⟨#[]⟩,.int .i64 0,.int .i64 0,.int .i64 0,.slice none 0 0,.int .i64 0,.int .i64 0,.int .u64 0,.bool false,.int .i64 0,.slice none 0 0,.int .i64 0,.int .u8 0,.int .i64 0,.slice none 0 0,.int .i64 0,.int .i64 0,.int .i64 0,.int .i64 0,.int .i64 0]
theorem zeroNode (w:World):RepNode w #[.int .i64 0,.int .i64 0,.int .i64 0,.int .i64 0,.int .i64 0,.int .i64 0,.int .i64 0,.slice none 0 0,.int .i64 0] (zeroG csNode):=⟨0,0,0,0,0,0,0,0,none,0,0,[],rfl,rfl,rfl,rfl,rfl,rfl,rfl,rfl,rfl,rfl,⟨fun _ => rfl,fun a e => by cases e⟩,rfl,by decide,fun x hx => by cases hx⟩
theorem zeroField (w:World):RepField w #[.int .i64 0,.int .u8 0,.int .i64 0,.int .i64 0,.int .i64 0] (zeroG csField):=⟨0,0,0,0,0,rfl,rfl,rfl,rfl,rfl,rfl,rfl⟩
theorem zeroTable (w:World):RepTable w #[.int .i64 0,.int .u8 0,.slice none 0 0,.int .i64 0,.int .i64 0] (zeroG csTable):=⟨0,0,0,0,none,0,0,[],rfl,rfl,rfl,rfl,rfl,rfl,⟨fun _ => rfl,fun a e => by cases e⟩,rfl,by decide,fun x hx => by cases hx⟩
theorem zeroEntry (w:World):RepEntry w #[.int .i64 0,.string ⟨#[]⟩,.string ⟨#[]⟩,.int .i64 0,.int .i64 0,.int .i64 0,.slice none 0 0,.int .i64 0,.int .i64 0,.int .u64 0,.bool false] (zeroG csEntry):=⟨0,0,0,0,0,0,0,⟨#[]⟩,⟨#[]⟩,false,none,0,0,[],rfl,rfl,rfl,Nat.zero_le _,Nat.zero_le _,rfl,rfl,rfl,rfl,rfl,rfl,⟨fun _ => rfl,fun a e => by cases e⟩,rfl,by decide,fun x hx => by cases hx⟩
theorem zeroBlock (w:World):RepBlock w #[.int .i64 0,.slice none 0 0] (zeroG csBlock):=⟨0,none,0,0,[],rfl,rfl,rfl,⟨fun _ => rfl,fun a e => by cases e⟩,rfl,by decide,fun x hx => by cases hx⟩
theorem zeroGroup (w:World):RepGroup w #[.int .i64 0,.int .u8 0,.int .i64 0,.slice none 0 0] (zeroG csGroup):=⟨0,0,0,none,0,0,[],rfl,rfl,rfl,rfl,rfl,⟨fun _ => rfl,fun a e => by cases e⟩,rfl,by decide,fun x hx => by cases hx⟩
theorem zeroMeter (w:World):RepMeter w #[.int .i64 0,.int .i64 0,.int .i64 0] (zeroG csMeter):=⟨0,0,0,rfl,rfl,rfl,rfl,rfl⟩
theorem zeroRegs (w:World):RepRegs w #[.int .i64 0,.int .i64 0] (zeroG csRegs):=⟨0,0,rfl,rfl,rfl,rfl⟩
theorem run_storeVar_part {P:Program} (w:World) (g o:Nat) (t ty:TypeId) (old cells:Array Value) (hg:w.heap[g]? = some (.cells old t (0,0))) (hi:(P.info? ty).map (·.size) = some cells.size)
 (ho:o + cells.size ≤ old.size) (h1:cells.all (·.oneCell') = true) :
 (storeVar ty ⟨g,o,none⟩ (.agg cells)).run P w = .ok () (w.setRow g (old.toList.take o ++ cells.toList ++ old.toList.drop (o + cells.size)).toArray):=by
 have:=run_storeCells_at (P:=P) g o t cells.toList 0 old w hg (by simp; omega) (fun v hv => (Array.all_eq_true_iff_forall_mem.1 h1) v (by simpa using hv))
 cases hq:P.info? ty with
 | none => simp [hq] at hi
 | some i =>
   have hs:cells.size = i.size:=by simp [hq] at hi; omega
   simp only [Nat.add_zero,Array.length_toList] at this
   simp [storeVar,sizeOf,typeInfo,hq,Value.cells,hs]
   rw [← hs]
   simpa using this
theorem wpList_store_part {P:Program} {ops:Array Oper} {rest:List Oper} {op:Oper} {a:Act} {w:World} {Q:Exit → Act → World → Prop} (hgd:op.guard = none) (ty:TypeId) (x y:Operand) (hop:op.op = .store ty x y)
 (g o:Nat) (cells:Array Value) (hx:a.eval x = .pointer (some ⟨g,o,none⟩)) (hy:a.eval y = .agg cells)
 (t:TypeId) (old:Array Value) (hg:w.heap[g]? = some (.cells old t (0,0))) (hi:(P.info? ty).map (·.size) = some cells.size)
 (ho:o + cells.size ≤ old.size) (h1:cells.all (·.oneCell') = true) {new:Array Value} (hn:(old.toList.take o ++ cells.toList ++ old.toList.drop (o + cells.size)).toArray = new)
 (h:wpList P ops Q rest (a.put op.dst undef) (w.setRow g new)):wpList P ops Q (op :: rest) a w:=by
 subst hn
 refine wpList_plain hgd fun _ hK => ?_
 have hh:=hK _ _ h
 unfold Oper.wp execOp
 simp only [hop,hx,hy,Instr.storeAt,Instr.sureAddr,Sem.run_bind,Sem.run_pure,Result.andThen_ok,run_storeVar_part w g o t ty old cells hg hi ho h1]
 exact hh
theorem RepNode.one {w:World} {c:Array Value} {vs:List ValN} (h:RepNode w c vs):c.all (·.oneCell') = true:=by
 unfold RepNode at h
 obtain ⟨_,_,_,_,_,_,_,_,_,_,_,_,rfl,_⟩:=h
 simp [Value.oneCell']
theorem RepField.one {w:World} {c:Array Value} {vs:List ValN} (h:RepField w c vs):c.all (·.oneCell') = true:=by
 unfold RepField at h
 obtain ⟨_,_,_,_,_,rfl,_⟩:=h
 simp [Value.oneCell']
theorem RepTable.one {w:World} {c:Array Value} {vs:List ValN} (h:RepTable w c vs):c.all (·.oneCell') = true:=by
 unfold RepTable at h
 obtain ⟨_,_,_,_,_,_,_,_,rfl,_⟩:=h
 simp [Value.oneCell']
theorem RepEntry.one {w:World} {c:Array Value} {vs:List ValN} (h:RepEntry w c vs):c.all (·.oneCell') = true:=by
 unfold RepEntry at h
 obtain ⟨_,_,_,_,_,_,_,_,_,_,_,_,_,_,rfl,_⟩:=h
 simp [Value.oneCell']
theorem RepBlock.one {w:World} {c:Array Value} {vs:List ValN} (h:RepBlock w c vs):c.all (·.oneCell') = true:=by
 unfold RepBlock at h
 obtain ⟨_,_,_,_,_,rfl,_⟩:=h
 simp [Value.oneCell']
theorem RepGroup.one {w:World} {c:Array Value} {vs:List ValN} (h:RepGroup w c vs):c.all (·.oneCell') = true:=by
 unfold RepGroup at h
 obtain ⟨_,_,_,_,_,_,_,rfl,_⟩:=h
 simp [Value.oneCell']
theorem RepMeter.one {w:World} {c:Array Value} {vs:List ValN} (h:RepMeter w c vs):c.all (·.oneCell') = true:=by
 unfold RepMeter at h
 obtain ⟨_,_,_,rfl,_⟩:=h
 simp [Value.oneCell']
theorem RepRegs.one {w:World} {c:Array Value} {vs:List ValN} (h:RepRegs w c vs):c.all (·.oneCell') = true:=by
 unfold RepRegs at h
 obtain ⟨_,_,rfl,_⟩:=h
 simp [Value.oneCell']
end Go.Proofs.YtoopdhgmdjienaaGreatDoor
