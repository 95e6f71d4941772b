/- OTopNode ORdNode ORows ORep ORepNode -/
import Derived.Test.YtoopdhgmdjienaaGreatDoorPkR13
namespace Go.Proofs.YtoopdhgmdjienaaGreatDoor
set_option linter.unusedVariables false
set_option maxRecDepth 20000
open Go.ChangeShapes Go.WideShapes Go.ChangeAt Go.RowKit Go.Joins
open Go.ChangeMaps (open_string shut_string)
set_option maxHeartbeats 64000000
theorem node_puts {w W:World} {x:FnP} {v0:Int} {v1:Int} {v2:Int} {v3:Int} {v4:Int} {v5:Int} {v6:Int} {v8:Int} {A:Option Addr} {n cap:Nat} {L:List (List Int)} (w0:(Lit.int .i64 v0).wf = true) (w1:(Lit.int .i64 v1).wf = true) (w2:(Lit.int .i64 v2).wf = true) (w3:(Lit.int .i64 v3).wf = true) (w4:(Lit.int .i64 v4).wf = true) (w5:(Lit.int .i64 v5).wf = true) (w6:(Lit.int .i64 v6).wf = true) (w8:(Lit.int .i64 v8).wf = true) (hA:RowAt w A 2 (rowsK ksArm L)) (hn:L.length = n) (hn9:n < 1000000) (hL:∀ x ∈ L,wfK ksArm x) (hg:Wider w W) {B:Nat} (hB:W.heap[B]? = some (.cells #[.int .i64 v0,.int .i64 v1,.int .i64 v2,.int .i64 v3,.int .i64 v4,.int .i64 v5,.int .i64 v6,.slice A n cap,.int .i64 v8] 32 (0,0)))
 {b0:Nat} {x0 x1 x2 x3 x4 x5 x6 x7 x8:FnP} (hR:RecAt b0 W x [x0,x1,x2,x3,x4,x5,x6,x7,x8]) (hp:NumP .i64 2147483647 (by decide) b0 W x0 (⟨B,0,none⟩ : Addr) ∧ NumP .i64 2147483647 (by decide) b0 W x1 (⟨B,0 + 1,none⟩ : Addr) ∧ NumP .i64 2147483647 (by decide) b0 W x2 (⟨B,0 + 2,none⟩ : Addr) ∧ NumP .i64 2147483647 (by decide) b0 W x3 (⟨B,0 + 3,none⟩ : Addr) ∧ NumP .i64 2147483647 (by decide) b0 W x4 (⟨B,0 + 4,none⟩ : Addr) ∧ NumP .i64 2147483647 (by decide) b0 W x5 (⟨B,0 + 5,none⟩ : Addr) ∧ NumP .i64 2147483647 (by decide) b0 W x6 (⟨B,0 + 6,none⟩ : Addr) ∧ NumP .i64 2147483647 (by decide) b0 W x7 (⟨B,0 + 8,none⟩ : Addr) ∧ PartV lArms (inL ksArm) (relL 61 2 ksArm) b0 W x8 (⟨B,0 + 7,none⟩ : Addr)) {T:ByteArray} {r:Nat} (hr:PutG csNode [ValN.num v0,ValN.num v1,ValN.num v2,ValN.num v3,ValN.num v4,ValN.num v5,ValN.num v6,ValN.num v8,ValN.lst L] T r):Puts W x T r:=by
 obtain ⟨h0,h1,h2,h3,h4,h5,h6,h7,h8⟩:=hp
 refine recput_c hR rfl rfl (fun k p c y e1 e2 e3 T r h => ?_) (by decide) (by decide) (by decide) hr
 match k,e1,e2,e3 with
 | 0,e1,e2,e3 =>
   simp [csNode] at e1 e2 e3
   subst e1 e2 e3
   exact h0.part.put W (Keeps.refl _ _) _ _ (blk_cell hB 0 rfl) ⟨_,rfl,rfl,w0⟩ T r h
 | 1,e1,e2,e3 =>
   simp [csNode] at e1 e2 e3
   subst e1 e2 e3
   exact h1.part.put W (Keeps.refl _ _) _ _ (blk_cell hB 1 rfl) ⟨_,rfl,rfl,w1⟩ T r h
 | 2,e1,e2,e3 =>
   simp [csNode] at e1 e2 e3
   subst e1 e2 e3
   exact h2.part.put W (Keeps.refl _ _) _ _ (blk_cell hB 2 rfl) ⟨_,rfl,rfl,w2⟩ T r h
 | 3,e1,e2,e3 =>
   simp [csNode] at e1 e2 e3
   subst e1 e2 e3
   exact h3.part.put W (Keeps.refl _ _) _ _ (blk_cell hB 3 rfl) ⟨_,rfl,rfl,w3⟩ T r h
 | 4,e1,e2,e3 =>
   simp [csNode] at e1 e2 e3
   subst e1 e2 e3
   exact h4.part.put W (Keeps.refl _ _) _ _ (blk_cell hB 4 rfl) ⟨_,rfl,rfl,w4⟩ T r h
 | 5,e1,e2,e3 =>
   simp [csNode] at e1 e2 e3
   subst e1 e2 e3
   exact h5.part.put W (Keeps.refl _ _) _ _ (blk_cell hB 5 rfl) ⟨_,rfl,rfl,w5⟩ T r h
 | 6,e1,e2,e3 =>
   simp [csNode] at e1 e2 e3
   subst e1 e2 e3
   exact h6.part.put W (Keeps.refl _ _) _ _ (blk_cell hB 6 rfl) ⟨_,rfl,rfl,w6⟩ T r h
 | 7,e1,e2,e3 =>
   simp [csNode] at e1 e2 e3
   subst e1 e2 e3
   exact h7.part.put W (Keeps.refl _ _) _ _ (blk_cell hB 8 rfl) ⟨_,rfl,rfl,w8⟩ T r h
 | 8,e1,e2,e3 =>
   simp [csNode] at e1 e2 e3
   subst e1 e2 e3
   exact h8.put W (Keeps.refl _ _) _ _ (blk_cell hB 7 rfl) ⟨A,n,cap,L,rfl,rfl,hn,hn9,hA.on hg,hL⟩ T r h
 | k + 9,e1,e2,e3 => simp at e1
theorem putNode_c (w:World) {v0:Int} {v1:Int} {v2:Int} {v3:Int} {v4:Int} {v5:Int} {v6:Int} {v8:Int} {A:Option Addr} {n cap:Nat} {L:List (List Int)} (w0:(Lit.int .i64 v0).wf = true) (w1:(Lit.int .i64 v1).wf = true) (w2:(Lit.int .i64 v2).wf = true) (w3:(Lit.int .i64 v3).wf = true) (w4:(Lit.int .i64 v4).wf = true) (w5:(Lit.int .i64 v5).wf = true) (w6:(Lit.int .i64 v6).wf = true) (w8:(Lit.int .i64 v8).wf = true) (hA:RowAt w A 2 (rowsK ksArm L)) (hn:L.length = n) (hn9:n < 1000000) (hL:∀ x ∈ L,wfK ksArm x) {T:ByteArray} {r:Nat} (hr:PutG csNode [ValN.num v0,ValN.num v1,ValN.num v2,ValN.num v3,ValN.num v4,ValN.num v5,ValN.num v6,ValN.num v8,ValN.lst L] T r) :
 Calls Tryz.prog 112 #[.agg #[.int .i64 v0,.int .i64 v1,.int .i64 v2,.int .i64 v3,.int .i64 v4,.int .i64 v5,.int .i64 v6,.slice A n cap,.int .i64 v8]] w fun e w' => e = .returned (.tuple #[.string T,.int .i64 (r:Int)]) ∧ Wider w w':=by
 have H:=(Own.nil (Wider.refl w)).blk #[.int .i64 v0,.int .i64 v1,.int .i64 v2,.int .i64 v3,.int .i64 v4,.int .i64 v5,.int .i64 v6,.slice A n cap,.int .i64 v8] 32
 have zs:=node_s (w.alloc (.cells #[.int .i64 v0,.int .i64 v1,.int .i64 v2,.int .i64 v3,.int .i64 v4,.int .i64 v5,.int .i64 v6,.slice A n cap,.int .i64 v8] 32)) ⟨w.heap.size,0,none⟩
 have hfp:=fld_put
 have HH:=Lib.hid H
 clear H
 go_enter Tryz.func112,Tryz.ntmps112
 go_wp2_with (first
  | (go_at_call 125; (with_reducible refine zs.mono ?_); rintro e wA ⟨x,rfl,g1,x0,x1,x2,x3,x4,x5,x6,x7,x8,hR,hp⟩; have hq:=node_puts (w0:=w0) (w1:=w1) (w2:=w2) (w3:=w3) (w4:=w4) (w5:=w5) (w6:=w6) (w8:=w8) (hA:=hA) (hn:=hn) (hn9:=hn9) (hL:=hL) (((Wider.refl w).alloc _).trans g1) (HH.out.quiet g1).head hR hp hr; have ent:∀ (args:Array Value) (w:World),(callFunc x.pf args).run Tryz.prog w = .ok (.enter x.pf args) w:=hq.1; have hq2:=hq.2 wA (Wider.refl _); clear hq hR hp)
  | (go_at_fn x.pf; (with_reducible refine hq2.mono ?_); rintro e wB ⟨rfl,g2⟩))
 go_ret2
 exact ⟨rfl,(((Wider.refl w).alloc _).trans g1).trans g2⟩
theorem node_gets {W:World} {x:FnP} {B b0:Nat} (hb:B < b0) (hB:W.heap[B]? = some (.cells #[.int .i64 0,.int .i64 0,.int .i64 0,.int .i64 0,.int .i64 0,.int .i64 0,.int .i64 0,.slice none 0 0,.int .i64 0] 32 (0,0)))
 {x0 x1 x2 x3 x4 x5 x6 x7 x8:FnP} (hR:RecAt b0 W x [x0,x1,x2,x3,x4,x5,x6,x7,x8]) (hp:NumP .i64 2147483647 (by decide) b0 W x0 (⟨B,0,none⟩ : Addr) ∧ NumP .i64 2147483647 (by decide) b0 W x1 (⟨B,0 + 1,none⟩ : Addr) ∧ NumP .i64 2147483647 (by decide) b0 W x2 (⟨B,0 + 2,none⟩ : Addr) ∧ NumP .i64 2147483647 (by decide) b0 W x3 (⟨B,0 + 3,none⟩ : Addr) ∧ NumP .i64 2147483647 (by decide) b0 W x4 (⟨B,0 + 4,none⟩ : Addr) ∧ NumP .i64 2147483647 (by decide) b0 W x5 (⟨B,0 + 5,none⟩ : Addr) ∧ NumP .i64 2147483647 (by decide) b0 W x6 (⟨B,0 + 6,none⟩ : Addr) ∧ NumP .i64 2147483647 (by decide) b0 W x7 (⟨B,0 + 8,none⟩ : Addr) ∧ PartV lArms (inL ksArm) (relL 61 2 ksArm) b0 W x8 (⟨B,0 + 7,none⟩ : Addr)) (s:ByteArray) (hs:s.size < 1000000) {v0:Int} {v1:Int} {v2:Int} {v3:Int} {v4:Int} {v5:Int} {v6:Int} {v8:Int} {L:List (List Int)} {r:Nat} (hr:decG csNode s.data.toList = ([ValN.num v0,ValN.num v1,ValN.num v2,ValN.num v3,ValN.num v4,ValN.num v5,ValN.num v6,ValN.num v8,ValN.lst L],r)) :
 Enters Tryz.prog x.gf ∧ Calls Tryz.prog x.gf (#[.string s] ++ x.gc) W fun e w' => e = .returned (.int .i64 (r:Int)) ∧ WBut [B] W w' ∧ (r = 0 → ∃ (A:Option Addr) (n cap:Nat),w'.heap[B]? = some (.cells #[.int .i64 v0,.int .i64 v1,.int .i64 v2,.int .i64 v3,.int .i64 v4,.int .i64 v5,.int .i64 v6,.slice A n cap,.int .i64 v8] 32 (0,0)) ∧ L.length = n ∧ w'.ownsRow (B + 1) 61 2 (.slice A n cap) n (cellsK ksArm L)):=by
 obtain ⟨h0,h1,h2,h3,h4,h5,h6,h7,h8⟩:=hp
 have k:=recget_c (B:=B) hR (cs:=csNode) (os:=[0,1,2,3,4,5,6,8,7]) (Rs:=[relV .i64,relV .i64,relV .i64,relV .i64,relV .i64,relV .i64,relV .i64,relV .i64,relL 61 2 ksArm]) rfl rfl rfl (by decide) (by
  intro R hR
  simp only [List.mem_cons,List.not_mem_nil,or_false] at hR
  rcases hR with rfl | rfl | rfl | rfl | rfl | rfl | rfl | rfl | rfl
  · exact relV_S _
  · exact relV_S _
  · exact relV_S _
  · exact relV_S _
  · exact relV_S _
  · exact relV_S _
  · exact relV_S _
  · exact relV_S _
  · exact relL_S _ _ _
  ) (by decide) (fun k p c o R e1 e2 e3 e4 => by
  match k,e1,e2,e3,e4 with
  | 0,e1,e2,e3,e4 =>
    simp [csNode] at e1 e2 e3 e4
    subst e1 e2 e3 e4
    exact h0.part.get
  | 1,e1,e2,e3,e4 =>
    simp [csNode] at e1 e2 e3 e4
    subst e1 e2 e3 e4
    exact h1.part.get
  | 2,e1,e2,e3,e4 =>
    simp [csNode] at e1 e2 e3 e4
    subst e1 e2 e3 e4
    exact h2.part.get
  | 3,e1,e2,e3,e4 =>
    simp [csNode] at e1 e2 e3 e4
    subst e1 e2 e3 e4
    exact h3.part.get
  | 4,e1,e2,e3,e4 =>
    simp [csNode] at e1 e2 e3 e4
    subst e1 e2 e3 e4
    exact h4.part.get
  | 5,e1,e2,e3,e4 =>
    simp [csNode] at e1 e2 e3 e4
    subst e1 e2 e3 e4
    exact h5.part.get
  | 6,e1,e2,e3,e4 =>
    simp [csNode] at e1 e2 e3 e4
    subst e1 e2 e3 e4
    exact h6.part.get
  | 7,e1,e2,e3,e4 =>
    simp [csNode] at e1 e2 e3 e4
    subst e1 e2 e3 e4
    exact h7.part.get
  | 8,e1,e2,e3,e4 =>
    simp [csNode] at e1 e2 e3 e4
    subst e1 e2 e3 e4
    exact h8.get
  | k + 9,e1,e2,e3,e4 => simp at e1) hb
 refine ⟨k.1,(k.2 W _ _ (Keeps.refl _ _) hB (by decide) ?_ s hs _ r hr).mono ?_⟩
 · intro k o R y e1 e2 e3
   match k,e1,e2,e3 with
   | 0,e1,e2,e3 =>
     simp [csNode,zeroG] at e1 e2 e3
     subst e1 e2 e3
     exact ⟨_,rfl,0,rfl,rfl⟩
   | 1,e1,e2,e3 =>
     simp [csNode,zeroG] at e1 e2 e3
     subst e1 e2 e3
     exact ⟨_,rfl,0,rfl,rfl⟩
   | 2,e1,e2,e3 =>
     simp [csNode,zeroG] at e1 e2 e3
     subst e1 e2 e3
     exact ⟨_,rfl,0,rfl,rfl⟩
   | 3,e1,e2,e3 =>
     simp [csNode,zeroG] at e1 e2 e3
     subst e1 e2 e3
     exact ⟨_,rfl,0,rfl,rfl⟩
   | 4,e1,e2,e3 =>
     simp [csNode,zeroG] at e1 e2 e3
     subst e1 e2 e3
     exact ⟨_,rfl,0,rfl,rfl⟩
   | 5,e1,e2,e3 =>
     simp [csNode,zeroG] at e1 e2 e3
     subst e1 e2 e3
     exact ⟨_,rfl,0,rfl,rfl⟩
   | 6,e1,e2,e3 =>
     simp [csNode,zeroG] at e1 e2 e3
     subst e1 e2 e3
     exact ⟨_,rfl,0,rfl,rfl⟩
   | 7,e1,e2,e3 =>
     simp [csNode,zeroG] at e1 e2 e3
     subst e1 e2 e3
     exact ⟨_,rfl,0,rfl,rfl⟩
   | 8,e1,e2,e3 =>
     simp [csNode,zeroG] at e1 e2 e3
     subst e1 e2 e3
     exact ⟨_,rfl,none,0,0,[],rfl,rfl,rfl,World.ownsRow_nil _ _ _ _⟩
   | k + 9,e1,e2,e3 => simp at e1
 · rintro e w3 ⟨rfl,g3,h⟩
   refine ⟨rfl,g3,fun h0 => ?_⟩
   obtain ⟨C',hC,hs',_,hst⟩:=h h0
   obtain ⟨u0,hu0,hv0⟩:=hst 0 0 _ _ rfl rfl rfl
   obtain ⟨n0,q0,rfl⟩:=hv0
   injection q0 with q0
   subst q0
   obtain ⟨u1,hu1,hv1⟩:=hst 1 1 _ _ rfl rfl rfl
   obtain ⟨n1,q1,rfl⟩:=hv1
   injection q1 with q1
   subst q1
   obtain ⟨u2,hu2,hv2⟩:=hst 2 2 _ _ rfl rfl rfl
   obtain ⟨n2,q2,rfl⟩:=hv2
   injection q2 with q2
   subst q2
   obtain ⟨u3,hu3,hv3⟩:=hst 3 3 _ _ rfl rfl rfl
   obtain ⟨n3,q3,rfl⟩:=hv3
   injection q3 with q3
   subst q3
   obtain ⟨u4,hu4,hv4⟩:=hst 4 4 _ _ rfl rfl rfl
   obtain ⟨n4,q4,rfl⟩:=hv4
   injection q4 with q4
   subst q4
   obtain ⟨u5,hu5,hv5⟩:=hst 5 5 _ _ rfl rfl rfl
   obtain ⟨n5,q5,rfl⟩:=hv5
   injection q5 with q5
   subst q5
   obtain ⟨u6,hu6,hv6⟩:=hst 6 6 _ _ rfl rfl rfl
   obtain ⟨n6,q6,rfl⟩:=hv6
   injection q6 with q6
   subst q6
   obtain ⟨u8,hu8,hv8⟩:=hst 7 8 _ _ rfl rfl rfl
   obtain ⟨n8,q8,rfl⟩:=hv8
   injection q8 with q8
   subst q8
   obtain ⟨u7,hu7,hv7⟩:=hst 8 7 _ _ rfl rfl rfl
   obtain ⟨A,n,cap,L2,rfl,qL,hLn,hLo⟩:=hv7
   injection qL with qL
   subst qL
   have e:C' = #[.int .i64 v0,.int .i64 v1,.int .i64 v2,.int .i64 v3,.int .i64 v4,.int .i64 v5,.int .i64 v6,.slice A n cap,.int .i64 v8]:=by
    refine arr_of hs' fun i hi => ?_
    have hi:i < 9:=hi
    match i,hi with
    | 0,_ => exact hu0
    | 1,_ => exact hu1
    | 2,_ => exact hu2
    | 3,_ => exact hu3
    | 4,_ => exact hu4
    | 5,_ => exact hu5
    | 6,_ => exact hu6
    | 7,_ => exact hu7
    | 8,_ => exact hu8
    | i + 9,h => omega
   subst e
   exact ⟨A,n,cap,hC,hLn,hLo⟩
theorem rdNode_c (s:ByteArray) (w:World) (hs:s.size < 1000000) {v0:Int} {v1:Int} {v2:Int} {v3:Int} {v4:Int} {v5:Int} {v6:Int} {v8:Int} {L:List (List Int)} {r:Nat} (hr:decG csNode s.data.toList = ([ValN.num v0,ValN.num v1,ValN.num v2,ValN.num v3,ValN.num v4,ValN.num v5,ValN.num v6,ValN.num v8,ValN.lst L],r)) :
 Calls Tryz.prog 124 #[.string s,.func (.func 125) #[] #[]] w fun e w' => ∃ (A:Option Addr) (n cap:Nat),e = .returned (.tuple #[.agg #[.int .i64 v0,.int .i64 v1,.int .i64 v2,.int .i64 v3,.int .i64 v4,.int .i64 v5,.int .i64 v6,.slice A n cap,.int .i64 v8],.int .i64 (r:Int)]) ∧ Wider w w' ∧ L.length = n ∧ w'.ownsRow w.heap.size 61 2 (.slice A n cap) n (cellsK ksArm L):=by
 have H:=(((Own.nil (Wider.refl w)).blk #[.int .i64 0,.int .i64 0,.int .i64 0,.int .i64 0,.int .i64 0,.int .i64 0,.int .i64 0,.slice none 0 0,.int .i64 0] 32).blk #[.int .i64 0,.int .i64 0,.int .i64 0,.int .i64 0,.int .i64 0,.int .i64 0,.int .i64 0,.slice none 0 0,.int .i64 0] 32).blk #[.int .i64 0,.int .i64 0,.int .i64 0,.int .i64 0,.int .i64 0,.int .i64 0,.int .i64 0,.slice none 0 0,.int .i64 0] 32
 have z1:(w.alloc (.cells #[.int .i64 0,.int .i64 0,.int .i64 0,.int .i64 0,.int .i64 0,.int .i64 0,.int .i64 0,.slice none 0 0,.int .i64 0] 32)).heap.size = w.heap.size + 1:=by simp
 have z2:((w.alloc (.cells #[.int .i64 0,.int .i64 0,.int .i64 0,.int .i64 0,.int .i64 0,.int .i64 0,.int .i64 0,.slice none 0 0,.int .i64 0] 32)).alloc (.cells #[.int .i64 0,.int .i64 0,.int .i64 0,.int .i64 0,.int .i64 0,.int .i64 0,.int .i64 0,.slice none 0 0,.int .i64 0] 32)).heap.size = w.heap.size + 2:=by simp
 rw [z1,z2] at H
 have z3:(((w.alloc (.cells #[.int .i64 0,.int .i64 0,.int .i64 0,.int .i64 0,.int .i64 0,.int .i64 0,.int .i64 0,.slice none 0 0,.int .i64 0] 32)).alloc (.cells #[.int .i64 0,.int .i64 0,.int .i64 0,.int .i64 0,.int .i64 0,.int .i64 0,.int .i64 0,.slice none 0 0,.int .i64 0] 32)).alloc (.cells #[.int .i64 0,.int .i64 0,.int .i64 0,.int .i64 0,.int .i64 0,.int .i64 0,.int .i64 0,.slice none 0 0,.int .i64 0] 32)).heap.size = w.heap.size + 3:=by simp
 have zs:=node_s (((w.alloc (.cells #[.int .i64 0,.int .i64 0,.int .i64 0,.int .i64 0,.int .i64 0,.int .i64 0,.int .i64 0,.slice none 0 0,.int .i64 0] 32)).alloc (.cells #[.int .i64 0,.int .i64 0,.int .i64 0,.int .i64 0,.int .i64 0,.int .i64 0,.int .i64 0,.slice none 0 0,.int .i64 0] 32)).alloc (.cells #[.int .i64 0,.int .i64 0,.int .i64 0,.int .i64 0,.int .i64 0,.int .i64 0,.int .i64 0,.slice none 0 0,.int .i64 0] 32)) ⟨w.heap.size + 1,0,none⟩
 rw [z3] at zs
 have hbad:=decG_bad csNode s.data.toList
 rw [hr] at hbad
 have hfg:=fld_get
 have HR:=Lib.hid hr
 have HBAD:=Lib.hid hbad
 have HH:=Lib.hid H
 clear z1 z2 z3 hr hbad H
 by_cases r0:r = 0
 · subst r0
   go_enter Tryz.func124,Tryz.ntmps124
   go_wp2_with (first
    | (go_at_call 125; (with_reducible refine zs.mono ?_); rintro e wA ⟨x,rfl,g1,x0,x1,x2,x3,x4,x5,x6,x7,x8,hR,hp⟩; have H1:=HH.out.quiet g1; have hq:=node_gets (B:=w.heap.size + 1) (by omega) H1.second hR hp s hs HR.out; have ent:∀ (args:Array Value) (w:World),(callFunc x.gf args).run Tryz.prog w = .ok (.enter x.gf args) w:=hq.1; have hq2:=hq.2; clear hq hR hp)
    | (go_at_fn x.gf; (with_reducible refine hq2.mono ?_); rintro e wB ⟨rfl,g2,hz⟩; obtain ⟨A,n,cap,hX,hLn,hLo⟩:=hz (by trivial); have hR3:=but_blk H1.drop.drop.head g2 (by omega))
    | (with_reducible refine wpList_load_row rfl 32 (.tmp 6) rfl (w.heap.size + 1) rfl 32 #[.int .i64 v0,.int .i64 v1,.int .i64 v2,.int .i64 v3,.int .i64 v4,.int .i64 v5,.int .i64 v6,.slice A n cap,.int .i64 v8] (0,0) _ hX Tryz.underlying32 rfl (by kernel_rfl) ?_)
    | (with_reducible refine wpList_store_row rfl 32 (.tmp 4) (.tmp 18) rfl w.heap.size #[.int .i64 v0,.int .i64 v1,.int .i64 v2,.int .i64 v3,.int .i64 v4,.int .i64 v5,.int .i64 v6,.slice A n cap,.int .i64 v8] rfl rfl 32 #[.int .i64 0,.int .i64 0,.int .i64 0,.int .i64 0,.int .i64 0,.int .i64 0,.int .i64 0,.slice none 0 0,.int .i64 0] hR3 (by kernel_rfl) rfl (by simp [Value.oneCell']) ?_; obtain ⟨g6,h6⟩:=setRow_facts #[.int .i64 v0,.int .i64 v1,.int .i64 v2,.int .i64 v3,.int .i64 v4,.int .i64 v5,.int .i64 v6,.slice A n cap,.int .i64 v8] hR3))
   have hsz:wB.heap.size > w.heap.size:=by have:=g2.size; have:=(Array.getElem?_eq_some_iff.1 H1.drop.drop.head).1; omega
   have W5:Wider w wB:=g2.wider H1.wider (by intro i m; simp only [List.mem_singleton] at m; omega)
   have W6w:Wider w _:=g6.wider W5 (by intro i m; simp only [List.mem_singleton] at m; omega)
   have d100:=blk_cell h6 0 (v:=.int .i64 v0) rfl
   have d101:=blk_cell h6 1 (v:=.int .i64 v1) rfl
   have d102:=blk_cell h6 2 (v:=.int .i64 v2) rfl
   have d103:=blk_cell h6 3 (v:=.int .i64 v3) rfl
   have d104:=blk_cell h6 4 (v:=.int .i64 v4) rfl
   have d105:=blk_cell h6 5 (v:=.int .i64 v5) rfl
   have d106:=blk_cell h6 6 (v:=.int .i64 v6) rfl
   have d107:=blk_cell h6 7 (v:=.slice A n cap) rfl
   have d108:=blk_cell h6 8 (v:=.int .i64 v8) rfl
   simp [bodyPost,results,Tryz.results124,go_sem,d100,d101,d102,d103,d104,d105,d106,d107,d108]
   exact ⟨A,n,cap,by simp,W6w,hLn,ownsRow_less (b:=w.heap.size + 1 + 1) (ownsRow_heap hLo fun i hi => g6.heap i (hLo.lt i (by simpa using hi)).2 (by have:=(hLo.lt i (by simpa using hi)).1; simp; omega)) (by omega)⟩
 · have hzv:[ValN.num v0,ValN.num v1,ValN.num v2,ValN.num v3,ValN.num v4,ValN.num v5,ValN.num v6,ValN.num v8,ValN.lst L] = [ValN.num 0,ValN.num 0,ValN.num 0,ValN.num 0,ValN.num 0,ValN.num 0,ValN.num 0,ValN.num 0,ValN.lst []] ∧ (r = 3 ∨ r = 4):=by
    rcases HBAD.out with h | ⟨h1,h2⟩
    · exact absurd h r0
    · exact ⟨h1,h2⟩
   obtain ⟨hzv,_⟩:=hzv
   simp only [ValN.num.injEq,ValN.lst.injEq,List.cons.injEq,and_true] at hzv
   obtain ⟨rfl,rfl,rfl,rfl,rfl,rfl,rfl,rfl,rfl⟩:=hzv
   have d0:((r:Int) == 0) = false:=by rw [beq_eq_false_iff_ne]; omega
   go_enter Tryz.func124,Tryz.ntmps124
   go_wp2_with (first
    | (go_at_call 125; (with_reducible refine zs.mono ?_); rintro e wA ⟨x,rfl,g1,x0,x1,x2,x3,x4,x5,x6,x7,x8,hR,hp⟩; have H1:=HH.out.quiet g1; have hq:=node_gets (B:=w.heap.size + 1) (by omega) H1.second hR hp s hs HR.out; have ent:∀ (args:Array Value) (w:World),(callFunc x.gf args).run Tryz.prog w = .ok (.enter x.gf args) w:=hq.1; have hq2:=hq.2; clear hq hR hp)
    | (go_at_fn x.gf; (with_reducible refine hq2.mono ?_); rintro e wB ⟨rfl,g2,hz⟩; have hX:=but_blk H1.head g2 (by omega); have hR3:=but_blk H1.drop.drop.head g2 (by omega))
    | (with_reducible refine wpList_load_row rfl 32 (.tmp 7) rfl (w.heap.size + 1 + 1) rfl 32 #[.int .i64 0,.int .i64 0,.int .i64 0,.int .i64 0,.int .i64 0,.int .i64 0,.int .i64 0,.slice none 0 0,.int .i64 0] (0,0) _ hX Tryz.underlying32 rfl (by kernel_rfl) ?_)
    | (with_reducible refine wpList_store_row rfl 32 (.tmp 4) (.tmp 16) rfl w.heap.size #[.int .i64 0,.int .i64 0,.int .i64 0,.int .i64 0,.int .i64 0,.int .i64 0,.int .i64 0,.slice none 0 0,.int .i64 0] rfl rfl 32 #[.int .i64 0,.int .i64 0,.int .i64 0,.int .i64 0,.int .i64 0,.int .i64 0,.int .i64 0,.slice none 0 0,.int .i64 0] hR3 (by kernel_rfl) rfl (by simp [Value.oneCell']) ?_; obtain ⟨g6,h6⟩:=setRow_facts #[.int .i64 0,.int .i64 0,.int .i64 0,.int .i64 0,.int .i64 0,.int .i64 0,.int .i64 0,.slice none 0 0,.int .i64 0] hR3))
   have hsz:wB.heap.size > w.heap.size:=by have:=g2.size; have:=(Array.getElem?_eq_some_iff.1 H1.drop.drop.head).1; omega
   have W5:Wider w wB:=g2.wider H1.wider (by intro i m; simp only [List.mem_singleton] at m; omega)
   have W6w:Wider w _:=g6.wider W5 (by intro i m; simp only [List.mem_singleton] at m; omega)
   have d100:=blk_cell h6 0 (v:=.int .i64 0) rfl
   have d101:=blk_cell h6 1 (v:=.int .i64 0) rfl
   have d102:=blk_cell h6 2 (v:=.int .i64 0) rfl
   have d103:=blk_cell h6 3 (v:=.int .i64 0) rfl
   have d104:=blk_cell h6 4 (v:=.int .i64 0) rfl
   have d105:=blk_cell h6 5 (v:=.int .i64 0) rfl
   have d106:=blk_cell h6 6 (v:=.int .i64 0) rfl
   have d107:=blk_cell h6 7 (v:=.slice none 0 0) rfl
   have d108:=blk_cell h6 8 (v:=.int .i64 0) rfl
   simp [bodyPost,results,Tryz.results124,go_sem,d100,d101,d102,d103,d104,d105,d106,d107,d108]
   exact ⟨none,0,0,by simp,W6w,rfl,World.ownsRow_nil _ _ _ _⟩
theorem readNode_c (s:ByteArray) (w:World) (hs:s.size < 1000000) {v0:Int} {v1:Int} {v2:Int} {v3:Int} {v4:Int} {v5:Int} {v6:Int} {v8:Int} {L:List (List Int)} {r:Nat} (hr:decG csNode s.data.toList = ([ValN.num v0,ValN.num v1,ValN.num v2,ValN.num v3,ValN.num v4,ValN.num v5,ValN.num v6,ValN.num v8,ValN.lst L],r)) :
 Calls Tryz.prog 83 #[.string s] w fun e w' => ∃ (A:Option Addr) (n cap:Nat),e = .returned (.tuple #[.agg #[.int .i64 v0,.int .i64 v1,.int .i64 v2,.int .i64 v3,.int .i64 v4,.int .i64 v5,.int .i64 v6,.slice A n cap,.int .i64 v8],.int .i64 (r:Int)]) ∧ Wider w w' ∧ L.length = n ∧ w'.ownsRow w.heap.size 61 2 (.slice A n cap) n (cellsK ksArm L):=by
 have H:=(Own.nil (Wider.refl w)).blk #[.int .i64 0,.int .i64 0,.int .i64 0,.int .i64 0,.int .i64 0,.int .i64 0,.int .i64 0,.slice none 0 0,.int .i64 0] 32
 have zr:=rdNode_c s (w.alloc (.cells #[.int .i64 0,.int .i64 0,.int .i64 0,.int .i64 0,.int .i64 0,.int .i64 0,.int .i64 0,.slice none 0 0,.int .i64 0] 32)) hs hr
 have HH:=Lib.hid H
 clear hr H
 go_enter Tryz.func83,Tryz.ntmps83
 go_wp2_with (first
  | (go_at_call 124; (with_reducible refine zr.mono ?_); rintro e wB ⟨A,n,cap,rfl,g1,hLn,hLo⟩; have H1:=HH.out.quiet g1; have hR3:=H1.head)
  | (with_reducible refine wpList_store_row rfl 32 (.tmp 2) (.tmp 6) rfl w.heap.size #[.int .i64 v0,.int .i64 v1,.int .i64 v2,.int .i64 v3,.int .i64 v4,.int .i64 v5,.int .i64 v6,.slice A n cap,.int .i64 v8] rfl rfl 32 #[.int .i64 0,.int .i64 0,.int .i64 0,.int .i64 0,.int .i64 0,.int .i64 0,.int .i64 0,.slice none 0 0,.int .i64 0] hR3 (by kernel_rfl) rfl (by simp [Value.oneCell']) ?_; obtain ⟨g6,h6⟩:=setRow_facts #[.int .i64 v0,.int .i64 v1,.int .i64 v2,.int .i64 v3,.int .i64 v4,.int .i64 v5,.int .i64 v6,.slice A n cap,.int .i64 v8] hR3))
 have W6w:Wider w _:=g6.wider H1.wider (by intro i m; simp only [List.mem_singleton] at m; omega)
 have d100:=blk_cell h6 0 (v:=.int .i64 v0) rfl
 have d101:=blk_cell h6 1 (v:=.int .i64 v1) rfl
 have d102:=blk_cell h6 2 (v:=.int .i64 v2) rfl
 have d103:=blk_cell h6 3 (v:=.int .i64 v3) rfl
 have d104:=blk_cell h6 4 (v:=.int .i64 v4) rfl
 have d105:=blk_cell h6 5 (v:=.int .i64 v5) rfl
 have d106:=blk_cell h6 6 (v:=.int .i64 v6) rfl
 have d107:=blk_cell h6 7 (v:=.slice A n cap) rfl
 have d108:=blk_cell h6 8 (v:=.int .i64 v8) rfl
 simp [bodyPost,results,Tryz.results83,go_sem,d100,d101,d102,d103,d104,d105,d106,d107,d108]
 have hz:(w.alloc (.cells #[.int .i64 0,.int .i64 0,.int .i64 0,.int .i64 0,.int .i64 0,.int .i64 0,.int .i64 0,.slice none 0 0,.int .i64 0] 32)).heap.size = w.heap.size + 1:=by simp
 exact ⟨A,n,cap,by simp,W6w,hLn,ownsRow_less (ownsRow_heap hLo fun i hi => g6.heap i (hLo.lt i (by simpa using hi)).2 (by have:=(hLo.lt i (by simpa using hi)).1; simp; omega)) (by omega)⟩
end Go.Proofs.YtoopdhgmdjienaaGreatDoor
namespace Go.Proofs.YtoopdhgmdjienaaGreatDoor
set_option linter.unusedVariables false
set_option maxRecDepth 20000
open Go.ChangeShapes Go.WideShapes Go.ChangeAt Go.RowKit Go.Joins
set_option maxHeartbeats 64000000
theorem cellsK_at (ks:List IntKind):∀ (L:List (List Int)),(∀ x ∈ L,x.length = ks.length) → ∀ (j:Nat) x i v,L[j]? = some x → (List.zipWith Value.int ks x)[i]? = some v → (cellsK ks L)[j * ks.length + i]? = some v
 | [],_,j,x,i,v,h,_ => by simp at h
 | y :: L,hl,0,x,i,v,h,hv => by
   simp at h
   subst h
   have e:cellsK ks (y :: L) = List.zipWith Value.int ks y ++ cellsK ks L:=rfl
   rw [e,Nat.zero_mul,Nat.zero_add,List.getElem?_append_left (List.getElem?_eq_some_iff.1 hv).1]
   exact hv
 | y :: L,hl,j + 1,x,i,v,h,hv => by
   have ih:=cellsK_at ks L (fun z hz => hl z (.tail _ hz)) j x i v (by simpa using h) hv
   have e:cellsK ks (y :: L) = List.zipWith Value.int ks y ++ cellsK ks L:=rfl
   have e2:(List.zipWith Value.int ks y).length = ks.length:=by rw [List.length_zipWith,hl y (.head _),Nat.min_self]
   rw [e,List.getElem?_append_right (by rw [e2,Nat.add_mul]; omega),e2]
   have e3:(j + 1) * ks.length + i - ks.length = j * ks.length + i:=by rw [Nat.add_mul]; omega
   rw [e3]; exact ih
theorem rowK_of {w:World} {A:Option Addr} {ks:List IntKind} {L:List (List Int)} (hl:∀ x ∈ L,x.length = ks.length) (hA:A = none → L = []) (h:∀ a,A = some a → ∀ j v,(cellsK ks L)[j]? = some v → w.cell? (a.add j) = some v):RowAt w A ks.length (rowsK ks L) where
 none_ e:=by rw [hA e]; rfl
 cell a e j x hx:=by
  unfold rowsK at hx
  rw [List.getElem?_map] at hx
  cases hy:L[j]? with
  | none => rw [hy] at hx; cases hx
  | some y =>
    rw [hy] at hx
    simp only [Option.map_some,Option.some.injEq] at hx
    subst hx
    refine ⟨by rw [List.length_zipWith,hl y (List.mem_of_getElem? hy),Nat.min_self],fun i v hv => ?_⟩
    have q:=h a e _ v (cellsK_at ks L hl j y i v hy hv)
    have ea:(a.add (j * ks.length)).add i = a.add (j * ks.length + i):=by
     unfold Addr.add
     by_cases h1:j * ks.length = 0
     · simp [h1]
     · by_cases h2:i = 0
       · subst h2; simp [h1]
       · simp [h1,h2,Nat.add_assoc]
    rw [ea]; exact q
theorem rowK_new (W:World) (ks:List IntKind) (L:List (List Int)) (t:TypeId) (C:Array Value) (hC:C.toList = cellsK ks L) (hl:∀ x ∈ L,x.length = ks.length):RowAt (W.alloc (.cells C t)) (some ⟨W.heap.size,0,none⟩) ks.length (rowsK ks L) :=
 rowK_of hl (fun e => by cases e) fun a e j v hv => by
  obtain rfl:(⟨W.heap.size,0,none⟩ : Addr) = a:=by injection e
  rw [Addr.add_mid,Nat.zero_add]
  exact blk_cell (heap_alloc_new W _) j (by rw [← Array.getElem?_toList,hC]; exact hv)
theorem rowK_own {w:World} {b:Nat} {T:TypeId} {A:Option Addr} {n c:Nat} {ks:List IntKind} {L:List (List Int)} {size:Nat} (hs:size = ks.length) (h0:0 < ks.length) (hn:L.length = n) (hl:∀ x ∈ L,x.length = ks.length) (h:w.ownsRow b T size (.slice A n c) n (cellsK ks L)):RowAt w A ks.length (rowsK ks L):=by
 subst hs
 refine rowK_of hl (fun e => ?_) fun a e j v hv => ?_
 · subst e
   rcases h.2 with ⟨_,q⟩ | ⟨g,cap,cur,q,_⟩
   · rw [← hn] at q; exact List.eq_nil_of_length_eq_zero q
   · injection q with q; cases q
 · subst e
   have hh:=h
   rcases h.2 with ⟨q,_⟩ | ⟨g,cap,cur,q,_⟩
   · injection q with q; cases q
   · injection q with q1 q2 q3
     injection q1 with q1
     subst q1
     exact World.ownsRow.cells (g:=g) hh rfl j v hv
end Go.Proofs.YtoopdhgmdjienaaGreatDoor
namespace Go.Proofs.YtoopdhgmdjienaaGreatDoor
set_option linter.unusedVariables false
set_option maxRecDepth 20000
open Go.ChangeShapes Go.WideShapes Go.ChangeAt Go.RowKit Go.Joins
open Go.ChangeMaps (open_string shut_string)
set_option maxHeartbeats 64000000
theorem wf_i64 {v:Int} (h:0 ≤ v ∧ v ≤ 9223372036854775807):(Lit.int .i64 v).wf = true:=by
 have h1:IntKind.i64.min = -9223372036854775808:=rfl
 have h2:IntKind.i64.max = 9223372036854775807:=rfl
 simp only [Lit.wf,Bool.and_eq_true,decide_eq_true_eq]; omega
theorem wf_u64 {v:Int} (h:0 ≤ v ∧ v ≤ 18446744073709551615):(Lit.int .u64 v).wf = true:=by
 have h1:IntKind.u64.min = 0:=rfl
 have h2:IntKind.u64.max = 18446744073709551615:=rfl
 simp only [Lit.wf,Bool.and_eq_true,decide_eq_true_eq]; omega
theorem wf_u8 {v:Int} (h:0 ≤ v ∧ v ≤ 255):(Lit.int .u8 v).wf = true:=by
 have h1:IntKind.u8.min = 0:=rfl
 have h2:IntKind.u8.max = 255:=rfl
 simp only [Lit.wf,Bool.and_eq_true,decide_eq_true_eq]; omega
theorem wf_u32 {v:Int} (h:0 ≤ v ∧ v ≤ 4294967295):(Lit.int .u32 v).wf = true:=by
 have h1:IntKind.u32.min = 0:=rfl
 have h2:IntKind.u32.max = 4294967295:=rfl
 simp only [Lit.wf,Bool.and_eq_true,decide_eq_true_eq]; omega
theorem okG_dec {β:Type} (cs:List (Cod β)) {s:ByteArray} {vs:List β} {r:Nat} (h:decG cs s.data.toList = (vs,r)):okG cs vs:=by
 by_cases c:r = 0
 · subst c; exact (decG_inv cs s vs h).1
 · rcases decG_bad cs s.data.toList with k | ⟨k,_⟩
   · rw [h] at k; exact absurd k c
   · rw [h] at k
     have k:vs = zeroG cs:=k
     rw [k]; exact okG_zero cs
theorem wfArm {x:List Int} (h:cArm.ok x):wfK ksArm x:=by
 have h2:okG csArm x:=h
 match x,h2 with
 | [x0,x1],h2 =>
   obtain ⟨⟨l0,u0⟩,⟨l1,u1⟩,_⟩:=h2
   refine ⟨rfl,fun i k m h1 h2 => ?_⟩
   match i,h1,h2 with
   | 0,h1,h2 => simp [ksArm] at h1 h2; subst h1 h2; exact wf_u32 ⟨l0,Int.le_trans u0 (by decide)⟩
   | 1,h1,h2 => simp [ksArm] at h1 h2; subst h1 h2; exact wf_i64 ⟨l1,Int.le_trans u1 (by decide)⟩
   | i + 2,h1,h2 => simp [ksArm] at h1
theorem wfInstr {x:List Int} (h:cInstr.ok x):wfK ksInstr x:=by
 have h2:okG csInstr x:=h
 match x,h2 with
 | [x0,x1,x2,x3,x4,x5,x6],h2 =>
   obtain ⟨⟨l0,u0⟩,⟨l1,u1⟩,⟨l2,u2⟩,⟨l3,u3⟩,⟨l4,u4⟩,⟨l5,u5⟩,⟨l6,u6⟩,_⟩:=h2
   refine ⟨rfl,fun i k m h1 h2 => ?_⟩
   match i,h1,h2 with
   | 0,h1,h2 => simp [ksInstr] at h1 h2; subst h1 h2; exact wf_u8 ⟨l0,Int.le_trans u0 (by decide)⟩
   | 1,h1,h2 => simp [ksInstr] at h1 h2; subst h1 h2; exact wf_i64 ⟨l1,Int.le_trans u1 (by decide)⟩
   | 2,h1,h2 => simp [ksInstr] at h1 h2; subst h1 h2; exact wf_u8 ⟨l2,Int.le_trans u2 (by decide)⟩
   | 3,h1,h2 => simp [ksInstr] at h1 h2; subst h1 h2; exact wf_u64 ⟨l3,Int.le_trans u3 (by decide)⟩
   | 4,h1,h2 => simp [ksInstr] at h1 h2; subst h1 h2; exact wf_u8 ⟨l4,Int.le_trans u4 (by decide)⟩
   | 5,h1,h2 => simp [ksInstr] at h1 h2; subst h1 h2; exact wf_u64 ⟨l5,Int.le_trans u5 (by decide)⟩
   | 6,h1,h2 => simp [ksInstr] at h1 h2; subst h1 h2; exact wf_i64 ⟨l6,Int.le_trans u6 (by decide)⟩
   | i + 7,h1,h2 => simp [ksInstr] at h1
theorem wfBucket {x:List Int} (h:cBucket.ok x):wfK ksBucket x:=by
 have h2:okG csBucket x:=h
 match x,h2 with
 | [x0,x1],h2 =>
   obtain ⟨⟨l0,u0⟩,⟨l1,u1⟩,_⟩:=h2
   refine ⟨rfl,fun i k m h1 h2 => ?_⟩
   match i,h1,h2 with
   | 0,h1,h2 => simp [ksBucket] at h1 h2; subst h1 h2; exact wf_u64 ⟨l0,Int.le_trans u0 (by decide)⟩
   | 1,h1,h2 => simp [ksBucket] at h1 h2; subst h1 h2; exact wf_i64 ⟨l1,Int.le_trans u1 (by decide)⟩
   | i + 2,h1,h2 => simp [ksBucket] at h1
theorem wfKey {x:List Int} (h:cKey.ok x):wfK ksKey x:=by
 obtain ⟨n,rfl,l,u⟩:=h
 exact wf1 (wf_i64 ⟨l,Int.le_trans u (by decide)⟩)
theorem wfArg {x:List Int} (h:cArg.ok x):wfK ksArg x:=by
 obtain ⟨n,rfl,l,u⟩:=h
 exact wf1 (wf_u64 ⟨l,Int.le_trans u (by decide)⟩)
def RepNode (w:World) (c:Array Value) (vs:List ValN):Prop :=
 ∃ (v0 v1 v2 v3 v4 v5 v6 v8:Int) (A:Option Addr) (n cap:Nat) (L:List (List Int)),c = #[.int .i64 v0,.int .i64 v1,.int .i64 v2,.int .i64 v3,.int .i64 v4,.int .i64 v5,.int .i64 v6,.slice A n cap,.int .i64 v8] ∧ vs = [ValN.num v0,ValN.num v1,ValN.num v2,ValN.num v3,ValN.num v4,ValN.num v5,ValN.num v6,ValN.num v8,ValN.lst L] ∧ (Lit.int .i64 v0).wf = true ∧ (Lit.int .i64 v1).wf = true ∧ (Lit.int .i64 v2).wf = true ∧ (Lit.int .i64 v3).wf = true ∧ (Lit.int .i64 v4).wf = true ∧ (Lit.int .i64 v5).wf = true ∧ (Lit.int .i64 v6).wf = true ∧ (Lit.int .i64 v8).wf = true ∧ RowAt w A 2 (rowsK ksArm L) ∧ L.length = n ∧ n < 1000000 ∧ ∀ x ∈ L,wfK ksArm x
theorem RepNode.on {W w:World} {c:Array Value} {vs:List ValN} (h:RepNode W c vs) (g:Wider W w):RepNode w c vs:=by
 obtain ⟨v0,v1,v2,v3,v4,v5,v6,v8,A,n,cap,L,rfl,rfl,w0,w1,w2,w3,w4,w5,w6,w8,hA,hn,hn9,hL⟩:=h
 exact ⟨v0,v1,v2,v3,v4,v5,v6,v8,A,n,cap,L,rfl,rfl,w0,w1,w2,w3,w4,w5,w6,w8,hA.on g,hn,hn9,hL⟩
theorem RepNode.size {w:World} {c:Array Value} {vs:List ValN} (h:RepNode w c vs):c.size = 9:=by
 obtain ⟨v0,v1,v2,v3,v4,v5,v6,v8,A,n,cap,L,rfl,rfl,w0,w1,w2,w3,w4,w5,w6,w8,hA,hn,hn9,hL⟩:=h
 rfl
theorem RepNode.put {w:World} {c:Array Value} {vs:List ValN} (h:RepNode w c vs) {T:ByteArray} {r:Nat} (hr:PutG csNode vs T r) :
 Calls Tryz.prog 112 #[.agg c] w fun e w' => e = .returned (.tuple #[.string T,.int .i64 (r:Int)]) ∧ Wider w w':=by
 obtain ⟨v0,v1,v2,v3,v4,v5,v6,v8,A,n,cap,L,rfl,rfl,w0,w1,w2,w3,w4,w5,w6,w8,hA,hn,hn9,hL⟩:=h
 exact putNode_c w (w0:=w0) (w1:=w1) (w2:=w2) (w3:=w3) (w4:=w4) (w5:=w5) (w6:=w6) (w8:=w8) (hA:=hA) (hn:=hn) (hn9:=hn9) (hL:=hL) hr
end Go.Proofs.YtoopdhgmdjienaaGreatDoor
