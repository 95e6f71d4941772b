/- OTopEntry ORdEntry ORepEntry -/
import Derived.Test.YtoopdhgmdjienaaGreatDoorPkR18
import Derived.Test.YtoopdhgmdjienaaGreatDoorPkR14
namespace Go.Proofs.YtoopdhgmdjienaaGreatDoor
set_option linter.unusedVariables false
set_option maxRecDepth 20000
open Go.ChangeShapes Go.WideShapes Go.ChangeAt Go.RowKit Go.Joins
open Go.ChangeMaps (open_string shut_string)
set_option maxHeartbeats 64000000
theorem entry_puts {w W:World} {x:FnP} {v0:Int} {v1:ByteArray} {v2:ByteArray} {v3:Int} {v4:Int} {v5:Int} {v7:Int} {v8:Int} {v9:Int} {v10:Bool} {A:Option Addr} {n cap:Nat} {L:List (List Int)} (w0:(Lit.int .i64 v0).wf = true) (w1:v1.size ≤ maxLen) (w2:v2.size ≤ maxLen) (w3:(Lit.int .i64 v3).wf = true) (w4:(Lit.int .i64 v4).wf = true) (w5:(Lit.int .i64 v5).wf = true) (w7:(Lit.int .i64 v7).wf = true) (w8:(Lit.int .i64 v8).wf = true) (w9:(Lit.int .u64 v9).wf = true) (hA:RowAt w A 1 (rowsK ksArg L)) (hn:L.length = n) (hn9:n < 1000000) (hL:∀ x ∈ L,wfK ksArg x) (hg:Wider w W) {B:Nat} (hB:W.heap[B]? = some (.cells #[.int .i64 v0,.string v1,.string v2,.int .i64 v3,.int .i64 v4,.int .i64 v5,.slice A n cap,.int .i64 v7,.int .i64 v8,.int .u64 v9,.bool v10] 39 (0,0)))
 {b0:Nat} {x0 x1 x2 x3 x4 x5 x6 x7 x8 x9 x10:FnP} (hR:RecAt b0 W x [x0,x1,x2,x3,x4,x5,x6,x7,x8,x9,x10]) (hp:NumP .i64 2147483647 (by decide) b0 W x0 (⟨B,0,none⟩ : Addr) ∧ PartV tK inT relT b0 W x1 (⟨B,0 + 1,none⟩ : Addr) ∧ PartV tK inT relT b0 W x2 (⟨B,0 + 2,none⟩ : Addr) ∧ NumP .i64 2147483647 (by decide) b0 W x3 (⟨B,0 + 3,none⟩ : Addr) ∧ NumP .i64 2147483647 (by decide) b0 W x4 (⟨B,0 + 4,none⟩ : Addr) ∧ NumP .i64 2147483647 (by decide) b0 W x5 (⟨B,0 + 5,none⟩ : Addr) ∧ PartV lArgs (inL ksArg) (relL 28 1 ksArg) b0 W x6 (⟨B,0 + 6,none⟩ : Addr) ∧ NumP .i64 9223372036854775807 (by decide) b0 W x7 (⟨B,0 + 7,none⟩ : Addr) ∧ NumP .i64 9223372036854775807 (by decide) b0 W x8 (⟨B,0 + 8,none⟩ : Addr) ∧ NumP .u64 18446744073709551615 (by decide) b0 W x9 (⟨B,0 + 9,none⟩ : Addr) ∧ PartV nT inB relB b0 W x10 (⟨B,0 + 10,none⟩ : Addr)) {T:ByteArray} {r:Nat} (hr:PutG csEntry [ValN.num v0,ValN.txt v1,ValN.txt v2,ValN.num v3,ValN.num v4,ValN.num v5,ValN.lst L,ValN.num v7,ValN.num v8,ValN.num v9,ValN.num (if v10 = true then 1 else 0)] T r):Puts W x T r:=by
 obtain ⟨h0,h1,h2,h3,h4,h5,h6,h7,h8,h9,h10⟩:=hp
 refine recput_c hR rfl rfl (fun k p c y e1 e2 e3 T r h => ?_) (by decide) (by decide) (by decide) hr
 match k,e1,e2,e3 with
 | 0,e1,e2,e3 =>
   simp [csEntry] at e1 e2 e3
   subst e1 e2 e3
   exact h0.part.put W (Keeps.refl _ _) _ _ (blk_cell hB 0 rfl) ⟨_,rfl,rfl,w0⟩ T r h
 | 1,e1,e2,e3 =>
   simp [csEntry] at e1 e2 e3
   subst e1 e2 e3
   exact h1.put W (Keeps.refl _ _) _ _ (blk_cell hB 1 rfl) ⟨_,rfl,rfl,w1⟩ T r h
 | 2,e1,e2,e3 =>
   simp [csEntry] at e1 e2 e3
   subst e1 e2 e3
   exact h2.put W (Keeps.refl _ _) _ _ (blk_cell hB 2 rfl) ⟨_,rfl,rfl,w2⟩ T r h
 | 3,e1,e2,e3 =>
   simp [csEntry] at e1 e2 e3
   subst e1 e2 e3
   exact h3.part.put W (Keeps.refl _ _) _ _ (blk_cell hB 3 rfl) ⟨_,rfl,rfl,w3⟩ T r h
 | 4,e1,e2,e3 =>
   simp [csEntry] at e1 e2 e3
   subst e1 e2 e3
   exact h4.part.put W (Keeps.refl _ _) _ _ (blk_cell hB 4 rfl) ⟨_,rfl,rfl,w4⟩ T r h
 | 5,e1,e2,e3 =>
   simp [csEntry] at e1 e2 e3
   subst e1 e2 e3
   exact h5.part.put W (Keeps.refl _ _) _ _ (blk_cell hB 5 rfl) ⟨_,rfl,rfl,w5⟩ T r h
 | 6,e1,e2,e3 =>
   simp [csEntry] at e1 e2 e3
   subst e1 e2 e3
   exact h6.put W (Keeps.refl _ _) _ _ (blk_cell hB 6 rfl) ⟨A,n,cap,L,rfl,rfl,hn,hn9,hA.on hg,hL⟩ T r h
 | 7,e1,e2,e3 =>
   simp [csEntry] at e1 e2 e3
   subst e1 e2 e3
   exact h7.part.put W (Keeps.refl _ _) _ _ (blk_cell hB 7 rfl) ⟨_,rfl,rfl,w7⟩ T r h
 | 8,e1,e2,e3 =>
   simp [csEntry] at e1 e2 e3
   subst e1 e2 e3
   exact h8.part.put W (Keeps.refl _ _) _ _ (blk_cell hB 8 rfl) ⟨_,rfl,rfl,w8⟩ T r h
 | 9,e1,e2,e3 =>
   simp [csEntry] at e1 e2 e3
   subst e1 e2 e3
   exact h9.part.put W (Keeps.refl _ _) _ _ (blk_cell hB 9 rfl) ⟨_,rfl,rfl,w9⟩ T r h
 | 10,e1,e2,e3 =>
   simp [csEntry] at e1 e2 e3
   subst e1 e2 e3
   exact h10.put W (Keeps.refl _ _) _ _ (blk_cell hB 10 rfl) ⟨_,rfl,rfl⟩ T r h
 | k + 11,e1,e2,e3 => simp at e1
theorem putEntry_c (w:World) {v0:Int} {v1:ByteArray} {v2:ByteArray} {v3:Int} {v4:Int} {v5:Int} {v7:Int} {v8:Int} {v9:Int} {v10:Bool} {A:Option Addr} {n cap:Nat} {L:List (List Int)} (w0:(Lit.int .i64 v0).wf = true) (w1:v1.size ≤ maxLen) (w2:v2.size ≤ maxLen) (w3:(Lit.int .i64 v3).wf = true) (w4:(Lit.int .i64 v4).wf = true) (w5:(Lit.int .i64 v5).wf = true) (w7:(Lit.int .i64 v7).wf = true) (w8:(Lit.int .i64 v8).wf = true) (w9:(Lit.int .u64 v9).wf = true) (hA:RowAt w A 1 (rowsK ksArg L)) (hn:L.length = n) (hn9:n < 1000000) (hL:∀ x ∈ L,wfK ksArg x) {T:ByteArray} {r:Nat} (hr:PutG csEntry [ValN.num v0,ValN.txt v1,ValN.txt v2,ValN.num v3,ValN.num v4,ValN.num v5,ValN.lst L,ValN.num v7,ValN.num v8,ValN.num v9,ValN.num (if v10 = true then 1 else 0)] T r) :
 Calls Tryz.prog 115 #[.agg #[.int .i64 v0,.string v1,.string v2,.int .i64 v3,.int .i64 v4,.int .i64 v5,.slice A n cap,.int .i64 v7,.int .i64 v8,.int .u64 v9,.bool v10]] w fun e w' => e = .returned (.tuple #[.string T,.int .i64 (r:Int)]) ∧ Wider w w':=by
 have H:=(Own.nil (Wider.refl w)).blk #[.int .i64 v0,.string v1,.string v2,.int .i64 v3,.int .i64 v4,.int .i64 v5,.slice A n cap,.int .i64 v7,.int .i64 v8,.int .u64 v9,.bool v10] 39
 have zs:=entry_s (w.alloc (.cells #[.int .i64 v0,.string v1,.string v2,.int .i64 v3,.int .i64 v4,.int .i64 v5,.slice A n cap,.int .i64 v7,.int .i64 v8,.int .u64 v9,.bool v10] 39)) ⟨w.heap.size,0,none⟩
 have hfp:=fld_put
 have HH:=Lib.hid H
 clear H
 go_enter Tryz.func115,Tryz.ntmps115
 go_wp2_with (first
  | (go_at_call 131; (with_reducible refine zs.mono ?_); rintro e wA ⟨x,rfl,g1,x0,x1,x2,x3,x4,x5,x6,x7,x8,x9,x10,hR,hp⟩; have hq:=entry_puts (w0:=w0) (w1:=w1) (w2:=w2) (w3:=w3) (w4:=w4) (w5:=w5) (w7:=w7) (w8:=w8) (w9:=w9) (hA:=hA) (hn:=hn) (hn9:=hn9) (hL:=hL) (((Wider.refl w).alloc _).trans g1) (HH.out.quiet g1).head hR hp hr; have ent:∀ (args:Array Value) (w:World),(callFunc x.pf args).run Tryz.prog w = .ok (.enter x.pf args) w:=hq.1; have hq2:=hq.2 wA (Wider.refl _); clear hq hR hp)
  | (go_at_fn x.pf; (with_reducible refine hq2.mono ?_); rintro e wB ⟨rfl,g2⟩))
 go_ret2
 exact ⟨rfl,(((Wider.refl w).alloc _).trans g1).trans g2⟩
theorem entry_gets {W:World} {x:FnP} {B b0:Nat} (hb:B < b0) (hB:W.heap[B]? = some (.cells #[.int .i64 0,.string ⟨#[]⟩,.string ⟨#[]⟩,.int .i64 0,.int .i64 0,.int .i64 0,.slice none 0 0,.int .i64 0,.int .i64 0,.int .u64 0,.bool false] 39 (0,0)))
 {x0 x1 x2 x3 x4 x5 x6 x7 x8 x9 x10:FnP} (hR:RecAt b0 W x [x0,x1,x2,x3,x4,x5,x6,x7,x8,x9,x10]) (hp:NumP .i64 2147483647 (by decide) b0 W x0 (⟨B,0,none⟩ : Addr) ∧ PartV tK inT relT b0 W x1 (⟨B,0 + 1,none⟩ : Addr) ∧ PartV tK inT relT b0 W x2 (⟨B,0 + 2,none⟩ : Addr) ∧ NumP .i64 2147483647 (by decide) b0 W x3 (⟨B,0 + 3,none⟩ : Addr) ∧ NumP .i64 2147483647 (by decide) b0 W x4 (⟨B,0 + 4,none⟩ : Addr) ∧ NumP .i64 2147483647 (by decide) b0 W x5 (⟨B,0 + 5,none⟩ : Addr) ∧ PartV lArgs (inL ksArg) (relL 28 1 ksArg) b0 W x6 (⟨B,0 + 6,none⟩ : Addr) ∧ NumP .i64 9223372036854775807 (by decide) b0 W x7 (⟨B,0 + 7,none⟩ : Addr) ∧ NumP .i64 9223372036854775807 (by decide) b0 W x8 (⟨B,0 + 8,none⟩ : Addr) ∧ NumP .u64 18446744073709551615 (by decide) b0 W x9 (⟨B,0 + 9,none⟩ : Addr) ∧ PartV nT inB relB b0 W x10 (⟨B,0 + 10,none⟩ : Addr)) (s:ByteArray) (hs:s.size < 1000000) {v0:Int} {v1:ByteArray} {v2:ByteArray} {v3:Int} {v4:Int} {v5:Int} {v7:Int} {v8:Int} {v9:Int} {v10:Int} {L:List (List Int)} {r:Nat} (hr:decG csEntry s.data.toList = ([ValN.num v0,ValN.txt v1,ValN.txt v2,ValN.num v3,ValN.num v4,ValN.num v5,ValN.lst L,ValN.num v7,ValN.num v8,ValN.num v9,ValN.num v10],r)) :
 Enters Tryz.prog x.gf ∧ Calls Tryz.prog x.gf (#[.string s] ++ x.gc) W fun e w' => e = .returned (.int .i64 (r:Int)) ∧ WBut [B] W w' ∧ (r = 0 → ∃ (A:Option Addr) (n cap:Nat),w'.heap[B]? = some (.cells #[.int .i64 v0,.string v1,.string v2,.int .i64 v3,.int .i64 v4,.int .i64 v5,.slice A n cap,.int .i64 v7,.int .i64 v8,.int .u64 v9,.bool (v10 == 1)] 39 (0,0)) ∧ L.length = n ∧ w'.ownsRow (B + 1) 28 1 (.slice A n cap) n (cellsK ksArg L)):=by
 obtain ⟨h0,h1,h2,h3,h4,h5,h6,h7,h8,h9,h10⟩:=hp
 have k:=recget_c (B:=B) hR (cs:=csEntry) (os:=[0,1,2,3,4,5,6,7,8,9,10]) (Rs:=[relV .i64,relT,relT,relV .i64,relV .i64,relV .i64,relL 28 1 ksArg,relV .i64,relV .i64,relV .u64,relB]) rfl rfl rfl (by decide) (by
  intro R hR
  simp only [List.mem_cons,List.not_mem_nil,or_false] at hR
  rcases hR with rfl | rfl | rfl | rfl | rfl | rfl | rfl | rfl | rfl | rfl | rfl
  · exact relV_S _
  · exact relT_S
  · exact relT_S
  · exact relV_S _
  · exact relV_S _
  · exact relV_S _
  · exact relL_S _ _ _
  · exact relV_S _
  · exact relV_S _
  · exact relV_S _
  · exact relB_S
  ) (by decide) (fun k p c o R e1 e2 e3 e4 => by
  match k,e1,e2,e3,e4 with
  | 0,e1,e2,e3,e4 =>
    simp [csEntry] at e1 e2 e3 e4
    subst e1 e2 e3 e4
    exact h0.part.get
  | 1,e1,e2,e3,e4 =>
    simp [csEntry] at e1 e2 e3 e4
    subst e1 e2 e3 e4
    exact h1.get
  | 2,e1,e2,e3,e4 =>
    simp [csEntry] at e1 e2 e3 e4
    subst e1 e2 e3 e4
    exact h2.get
  | 3,e1,e2,e3,e4 =>
    simp [csEntry] at e1 e2 e3 e4
    subst e1 e2 e3 e4
    exact h3.part.get
  | 4,e1,e2,e3,e4 =>
    simp [csEntry] at e1 e2 e3 e4
    subst e1 e2 e3 e4
    exact h4.part.get
  | 5,e1,e2,e3,e4 =>
    simp [csEntry] at e1 e2 e3 e4
    subst e1 e2 e3 e4
    exact h5.part.get
  | 6,e1,e2,e3,e4 =>
    simp [csEntry] at e1 e2 e3 e4
    subst e1 e2 e3 e4
    exact h6.get
  | 7,e1,e2,e3,e4 =>
    simp [csEntry] at e1 e2 e3 e4
    subst e1 e2 e3 e4
    exact h7.part.get
  | 8,e1,e2,e3,e4 =>
    simp [csEntry] at e1 e2 e3 e4
    subst e1 e2 e3 e4
    exact h8.part.get
  | 9,e1,e2,e3,e4 =>
    simp [csEntry] at e1 e2 e3 e4
    subst e1 e2 e3 e4
    exact h9.part.get
  | 10,e1,e2,e3,e4 =>
    simp [csEntry] at e1 e2 e3 e4
    subst e1 e2 e3 e4
    exact h10.get
  | k + 11,e1,e2,e3,e4 => simp at e1) hb
 refine ⟨k.1,(k.2 W _ _ (Keeps.refl _ _) hB (by decide) ?_ s hs _ r hr).mono ?_⟩
 · intro k o R y e1 e2 e3
   match k,e1,e2,e3 with
   | 0,e1,e2,e3 =>
     simp [csEntry,zeroG] at e1 e2 e3
     subst e1 e2 e3
     exact ⟨_,rfl,0,rfl,rfl⟩
   | 1,e1,e2,e3 =>
     simp [csEntry,zeroG] at e1 e2 e3
     subst e1 e2 e3
     exact ⟨_,rfl,⟨#[]⟩,rfl,rfl⟩
   | 2,e1,e2,e3 =>
     simp [csEntry,zeroG] at e1 e2 e3
     subst e1 e2 e3
     exact ⟨_,rfl,⟨#[]⟩,rfl,rfl⟩
   | 3,e1,e2,e3 =>
     simp [csEntry,zeroG] at e1 e2 e3
     subst e1 e2 e3
     exact ⟨_,rfl,0,rfl,rfl⟩
   | 4,e1,e2,e3 =>
     simp [csEntry,zeroG] at e1 e2 e3
     subst e1 e2 e3
     exact ⟨_,rfl,0,rfl,rfl⟩
   | 5,e1,e2,e3 =>
     simp [csEntry,zeroG] at e1 e2 e3
     subst e1 e2 e3
     exact ⟨_,rfl,0,rfl,rfl⟩
   | 6,e1,e2,e3 =>
     simp [csEntry,zeroG] at e1 e2 e3
     subst e1 e2 e3
     exact ⟨_,rfl,none,0,0,[],rfl,rfl,rfl,World.ownsRow_nil _ _ _ _⟩
   | 7,e1,e2,e3 =>
     simp [csEntry,zeroG] at e1 e2 e3
     subst e1 e2 e3
     exact ⟨_,rfl,0,rfl,rfl⟩
   | 8,e1,e2,e3 =>
     simp [csEntry,zeroG] at e1 e2 e3
     subst e1 e2 e3
     exact ⟨_,rfl,0,rfl,rfl⟩
   | 9,e1,e2,e3 =>
     simp [csEntry,zeroG] at e1 e2 e3
     subst e1 e2 e3
     exact ⟨_,rfl,0,rfl,rfl⟩
   | 10,e1,e2,e3 =>
     simp [csEntry,zeroG] at e1 e2 e3
     subst e1 e2 e3
     exact ⟨_,rfl,0,rfl,rfl⟩
   | k + 11,e1,e2,e3 => simp at e1
 · rintro e w3 ⟨rfl,g3,h⟩
   refine ⟨rfl,g3,fun h0 => ?_⟩
   obtain ⟨C',hC,hs',_,hst⟩:=h h0
   obtain ⟨u0,hu0,hv0⟩:=hst 0 0 _ _ rfl rfl rfl
   obtain ⟨n0,q0,rfl⟩:=hv0
   injection q0 with q0
   subst q0
   obtain ⟨u1,hu1,hv1⟩:=hst 1 1 _ _ rfl rfl rfl
   obtain ⟨s1,q1,rfl⟩:=hv1
   injection q1 with q1
   subst q1
   obtain ⟨u2,hu2,hv2⟩:=hst 2 2 _ _ rfl rfl rfl
   obtain ⟨s2,q2,rfl⟩:=hv2
   injection q2 with q2
   subst q2
   obtain ⟨u3,hu3,hv3⟩:=hst 3 3 _ _ rfl rfl rfl
   obtain ⟨n3,q3,rfl⟩:=hv3
   injection q3 with q3
   subst q3
   obtain ⟨u4,hu4,hv4⟩:=hst 4 4 _ _ rfl rfl rfl
   obtain ⟨n4,q4,rfl⟩:=hv4
   injection q4 with q4
   subst q4
   obtain ⟨u5,hu5,hv5⟩:=hst 5 5 _ _ rfl rfl rfl
   obtain ⟨n5,q5,rfl⟩:=hv5
   injection q5 with q5
   subst q5
   obtain ⟨u6,hu6,hv6⟩:=hst 6 6 _ _ rfl rfl rfl
   obtain ⟨A,n,cap,L2,rfl,qL,hLn,hLo⟩:=hv6
   injection qL with qL
   subst qL
   obtain ⟨u7,hu7,hv7⟩:=hst 7 7 _ _ rfl rfl rfl
   obtain ⟨n7,q7,rfl⟩:=hv7
   injection q7 with q7
   subst q7
   obtain ⟨u8,hu8,hv8⟩:=hst 8 8 _ _ rfl rfl rfl
   obtain ⟨n8,q8,rfl⟩:=hv8
   injection q8 with q8
   subst q8
   obtain ⟨u9,hu9,hv9⟩:=hst 9 9 _ _ rfl rfl rfl
   obtain ⟨n9,q9,rfl⟩:=hv9
   injection q9 with q9
   subst q9
   obtain ⟨u10,hu10,hv10⟩:=hst 10 10 _ _ rfl rfl rfl
   obtain ⟨n10,q10,rfl⟩:=hv10
   injection q10 with q10
   subst q10
   have e:C' = #[.int .i64 v0,.string v1,.string v2,.int .i64 v3,.int .i64 v4,.int .i64 v5,.slice A n cap,.int .i64 v7,.int .i64 v8,.int .u64 v9,.bool (v10 == 1)]:=by
    refine arr_of hs' fun i hi => ?_
    have hi:i < 11:=hi
    match i,hi with
    | 0,_ => exact hu0
    | 1,_ => exact hu1
    | 2,_ => exact hu2
    | 3,_ => exact hu3
    | 4,_ => exact hu4
    | 5,_ => exact hu5
    | 6,_ => exact hu6
    | 7,_ => exact hu7
    | 8,_ => exact hu8
    | 9,_ => exact hu9
    | 10,_ => exact hu10
    | i + 11,h => omega
   subst e
   exact ⟨A,n,cap,hC,hLn,hLo⟩
theorem rdEntry_c (s:ByteArray) (w:World) (hs:s.size < 1000000) {v0:Int} {v1:ByteArray} {v2:ByteArray} {v3:Int} {v4:Int} {v5:Int} {v7:Int} {v8:Int} {v9:Int} {v10:Int} {L:List (List Int)} {r:Nat} (hr:decG csEntry s.data.toList = ([ValN.num v0,ValN.txt v1,ValN.txt v2,ValN.num v3,ValN.num v4,ValN.num v5,ValN.lst L,ValN.num v7,ValN.num v8,ValN.num v9,ValN.num v10],r)) :
 Calls Tryz.prog 130 #[.string s,.func (.func 131) #[] #[]] w fun e w' => ∃ (A:Option Addr) (n cap:Nat),e = .returned (.tuple #[.agg #[.int .i64 v0,.string v1,.string v2,.int .i64 v3,.int .i64 v4,.int .i64 v5,.slice A n cap,.int .i64 v7,.int .i64 v8,.int .u64 v9,.bool (v10 == 1)],.int .i64 (r:Int)]) ∧ Wider w w' ∧ L.length = n ∧ w'.ownsRow w.heap.size 28 1 (.slice A n cap) n (cellsK ksArg L):=by
 have H:=(((Own.nil (Wider.refl w)).blk #[.int .i64 0,.string ⟨#[]⟩,.string ⟨#[]⟩,.int .i64 0,.int .i64 0,.int .i64 0,.slice none 0 0,.int .i64 0,.int .i64 0,.int .u64 0,.bool false] 39).blk #[.int .i64 0,.string ⟨#[]⟩,.string ⟨#[]⟩,.int .i64 0,.int .i64 0,.int .i64 0,.slice none 0 0,.int .i64 0,.int .i64 0,.int .u64 0,.bool false] 39).blk #[.int .i64 0,.string ⟨#[]⟩,.string ⟨#[]⟩,.int .i64 0,.int .i64 0,.int .i64 0,.slice none 0 0,.int .i64 0,.int .i64 0,.int .u64 0,.bool false] 39
 have z1:(w.alloc (.cells #[.int .i64 0,.string ⟨#[]⟩,.string ⟨#[]⟩,.int .i64 0,.int .i64 0,.int .i64 0,.slice none 0 0,.int .i64 0,.int .i64 0,.int .u64 0,.bool false] 39)).heap.size = w.heap.size + 1:=by simp
 have z2:((w.alloc (.cells #[.int .i64 0,.string ⟨#[]⟩,.string ⟨#[]⟩,.int .i64 0,.int .i64 0,.int .i64 0,.slice none 0 0,.int .i64 0,.int .i64 0,.int .u64 0,.bool false] 39)).alloc (.cells #[.int .i64 0,.string ⟨#[]⟩,.string ⟨#[]⟩,.int .i64 0,.int .i64 0,.int .i64 0,.slice none 0 0,.int .i64 0,.int .i64 0,.int .u64 0,.bool false] 39)).heap.size = w.heap.size + 2:=by simp
 rw [z1,z2] at H
 have z3:(((w.alloc (.cells #[.int .i64 0,.string ⟨#[]⟩,.string ⟨#[]⟩,.int .i64 0,.int .i64 0,.int .i64 0,.slice none 0 0,.int .i64 0,.int .i64 0,.int .u64 0,.bool false] 39)).alloc (.cells #[.int .i64 0,.string ⟨#[]⟩,.string ⟨#[]⟩,.int .i64 0,.int .i64 0,.int .i64 0,.slice none 0 0,.int .i64 0,.int .i64 0,.int .u64 0,.bool false] 39)).alloc (.cells #[.int .i64 0,.string ⟨#[]⟩,.string ⟨#[]⟩,.int .i64 0,.int .i64 0,.int .i64 0,.slice none 0 0,.int .i64 0,.int .i64 0,.int .u64 0,.bool false] 39)).heap.size = w.heap.size + 3:=by simp
 have zs:=entry_s (((w.alloc (.cells #[.int .i64 0,.string ⟨#[]⟩,.string ⟨#[]⟩,.int .i64 0,.int .i64 0,.int .i64 0,.slice none 0 0,.int .i64 0,.int .i64 0,.int .u64 0,.bool false] 39)).alloc (.cells #[.int .i64 0,.string ⟨#[]⟩,.string ⟨#[]⟩,.int .i64 0,.int .i64 0,.int .i64 0,.slice none 0 0,.int .i64 0,.int .i64 0,.int .u64 0,.bool false] 39)).alloc (.cells #[.int .i64 0,.string ⟨#[]⟩,.string ⟨#[]⟩,.int .i64 0,.int .i64 0,.int .i64 0,.slice none 0 0,.int .i64 0,.int .i64 0,.int .u64 0,.bool false] 39)) ⟨w.heap.size + 1,0,none⟩
 rw [z3] at zs
 have hbad:=decG_bad csEntry s.data.toList
 rw [hr] at hbad
 have hfg:=fld_get
 have HR:=Lib.hid hr
 have HBAD:=Lib.hid hbad
 have HH:=Lib.hid H
 clear z1 z2 z3 hr hbad H
 by_cases r0:r = 0
 · subst r0
   go_enter Tryz.func130,Tryz.ntmps130
   go_wp2_with (first
    | (go_at_call 131; (with_reducible refine zs.mono ?_); rintro e wA ⟨x,rfl,g1,x0,x1,x2,x3,x4,x5,x6,x7,x8,x9,x10,hR,hp⟩; have H1:=HH.out.quiet g1; have hq:=entry_gets (B:=w.heap.size + 1) (by omega) H1.second hR hp s hs HR.out; have ent:∀ (args:Array Value) (w:World),(callFunc x.gf args).run Tryz.prog w = .ok (.enter x.gf args) w:=hq.1; have hq2:=hq.2; clear hq hR hp)
    | (go_at_fn x.gf; (with_reducible refine hq2.mono ?_); rintro e wB ⟨rfl,g2,hz⟩; obtain ⟨A,n,cap,hX,hLn,hLo⟩:=hz (by trivial); have hR3:=but_blk H1.drop.drop.head g2 (by omega))
    | (with_reducible refine wpList_load_row rfl 39 (.tmp 6) rfl (w.heap.size + 1) rfl 39 #[.int .i64 v0,.string v1,.string v2,.int .i64 v3,.int .i64 v4,.int .i64 v5,.slice A n cap,.int .i64 v7,.int .i64 v8,.int .u64 v9,.bool (v10 == 1)] (0,0) _ hX Tryz.underlying39 rfl (by kernel_rfl) ?_)
    | (with_reducible refine wpList_store_row rfl 39 (.tmp 4) (.tmp 18) rfl w.heap.size #[.int .i64 v0,.string v1,.string v2,.int .i64 v3,.int .i64 v4,.int .i64 v5,.slice A n cap,.int .i64 v7,.int .i64 v8,.int .u64 v9,.bool (v10 == 1)] rfl rfl 39 #[.int .i64 0,.string ⟨#[]⟩,.string ⟨#[]⟩,.int .i64 0,.int .i64 0,.int .i64 0,.slice none 0 0,.int .i64 0,.int .i64 0,.int .u64 0,.bool false] hR3 (by kernel_rfl) rfl (by simp [Value.oneCell']) ?_; obtain ⟨g6,h6⟩:=setRow_facts #[.int .i64 v0,.string v1,.string v2,.int .i64 v3,.int .i64 v4,.int .i64 v5,.slice A n cap,.int .i64 v7,.int .i64 v8,.int .u64 v9,.bool (v10 == 1)] hR3))
   have hsz:wB.heap.size > w.heap.size:=by have:=g2.size; have:=(Array.getElem?_eq_some_iff.1 H1.drop.drop.head).1; omega
   have W5:Wider w wB:=g2.wider H1.wider (by intro i m; simp only [List.mem_singleton] at m; omega)
   have W6w:Wider w _:=g6.wider W5 (by intro i m; simp only [List.mem_singleton] at m; omega)
   have d100:=blk_cell h6 0 (v:=.int .i64 v0) rfl
   have d101:=blk_cell h6 1 (v:=.string v1) rfl
   have d102:=blk_cell h6 2 (v:=.string v2) rfl
   have d103:=blk_cell h6 3 (v:=.int .i64 v3) rfl
   have d104:=blk_cell h6 4 (v:=.int .i64 v4) rfl
   have d105:=blk_cell h6 5 (v:=.int .i64 v5) rfl
   have d106:=blk_cell h6 6 (v:=.slice A n cap) rfl
   have d107:=blk_cell h6 7 (v:=.int .i64 v7) rfl
   have d108:=blk_cell h6 8 (v:=.int .i64 v8) rfl
   have d109:=blk_cell h6 9 (v:=.int .u64 v9) rfl
   have d110:=blk_cell h6 10 (v:=.bool (v10 == 1)) rfl
   simp [bodyPost,results,Tryz.results130,go_sem,d100,d101,d102,d103,d104,d105,d106,d107,d108,d109,d110]
   exact ⟨A,n,cap,by simp,W6w,hLn,ownsRow_less (b:=w.heap.size + 1 + 1) (ownsRow_heap hLo fun i hi => g6.heap i (hLo.lt i (by simpa using hi)).2 (by have:=(hLo.lt i (by simpa using hi)).1; simp; omega)) (by omega)⟩
 · have hzv:[ValN.num v0,ValN.txt v1,ValN.txt v2,ValN.num v3,ValN.num v4,ValN.num v5,ValN.lst L,ValN.num v7,ValN.num v8,ValN.num v9,ValN.num v10] = [ValN.num 0,ValN.txt ⟨#[]⟩,ValN.txt ⟨#[]⟩,ValN.num 0,ValN.num 0,ValN.num 0,ValN.lst [],ValN.num 0,ValN.num 0,ValN.num 0,ValN.num 0] ∧ (r = 3 ∨ r = 4):=by
    rcases HBAD.out with h | ⟨h1,h2⟩
    · exact absurd h r0
    · exact ⟨h1,h2⟩
   obtain ⟨hzv,_⟩:=hzv
   simp only [ValN.num.injEq,ValN.txt.injEq,ValN.lst.injEq,List.cons.injEq,and_true] at hzv
   obtain ⟨rfl,rfl,rfl,rfl,rfl,rfl,rfl,rfl,rfl,rfl,rfl⟩:=hzv
   have d0:((r:Int) == 0) = false:=by rw [beq_eq_false_iff_ne]; omega
   go_enter Tryz.func130,Tryz.ntmps130
   go_wp2_with (first
    | (go_at_call 131; (with_reducible refine zs.mono ?_); rintro e wA ⟨x,rfl,g1,x0,x1,x2,x3,x4,x5,x6,x7,x8,x9,x10,hR,hp⟩; have H1:=HH.out.quiet g1; have hq:=entry_gets (B:=w.heap.size + 1) (by omega) H1.second hR hp s hs HR.out; have ent:∀ (args:Array Value) (w:World),(callFunc x.gf args).run Tryz.prog w = .ok (.enter x.gf args) w:=hq.1; have hq2:=hq.2; clear hq hR hp)
    | (go_at_fn x.gf; (with_reducible refine hq2.mono ?_); rintro e wB ⟨rfl,g2,hz⟩; have hX:=but_blk H1.head g2 (by omega); have hR3:=but_blk H1.drop.drop.head g2 (by omega))
    | (with_reducible refine wpList_load_row rfl 39 (.tmp 7) rfl (w.heap.size + 1 + 1) rfl 39 #[.int .i64 0,.string ⟨#[]⟩,.string ⟨#[]⟩,.int .i64 0,.int .i64 0,.int .i64 0,.slice none 0 0,.int .i64 0,.int .i64 0,.int .u64 0,.bool false] (0,0) _ hX Tryz.underlying39 rfl (by kernel_rfl) ?_)
    | (with_reducible refine wpList_store_row rfl 39 (.tmp 4) (.tmp 16) rfl w.heap.size #[.int .i64 0,.string ⟨#[]⟩,.string ⟨#[]⟩,.int .i64 0,.int .i64 0,.int .i64 0,.slice none 0 0,.int .i64 0,.int .i64 0,.int .u64 0,.bool false] rfl rfl 39 #[.int .i64 0,.string ⟨#[]⟩,.string ⟨#[]⟩,.int .i64 0,.int .i64 0,.int .i64 0,.slice none 0 0,.int .i64 0,.int .i64 0,.int .u64 0,.bool false] hR3 (by kernel_rfl) rfl (by simp [Value.oneCell']) ?_; obtain ⟨g6,h6⟩:=setRow_facts #[.int .i64 0,.string ⟨#[]⟩,.string ⟨#[]⟩,.int .i64 0,.int .i64 0,.int .i64 0,.slice none 0 0,.int .i64 0,.int .i64 0,.int .u64 0,.bool false] hR3))
   have hsz:wB.heap.size > w.heap.size:=by have:=g2.size; have:=(Array.getElem?_eq_some_iff.1 H1.drop.drop.head).1; omega
   have W5:Wider w wB:=g2.wider H1.wider (by intro i m; simp only [List.mem_singleton] at m; omega)
   have W6w:Wider w _:=g6.wider W5 (by intro i m; simp only [List.mem_singleton] at m; omega)
   have d100:=blk_cell h6 0 (v:=.int .i64 0) rfl
   have d101:=blk_cell h6 1 (v:=.string ⟨#[]⟩) rfl
   have d102:=blk_cell h6 2 (v:=.string ⟨#[]⟩) rfl
   have d103:=blk_cell h6 3 (v:=.int .i64 0) rfl
   have d104:=blk_cell h6 4 (v:=.int .i64 0) rfl
   have d105:=blk_cell h6 5 (v:=.int .i64 0) rfl
   have d106:=blk_cell h6 6 (v:=.slice none 0 0) rfl
   have d107:=blk_cell h6 7 (v:=.int .i64 0) rfl
   have d108:=blk_cell h6 8 (v:=.int .i64 0) rfl
   have d109:=blk_cell h6 9 (v:=.int .u64 0) rfl
   have d110:=blk_cell h6 10 (v:=(.bool false)) rfl
   simp [bodyPost,results,Tryz.results130,go_sem,d100,d101,d102,d103,d104,d105,d106,d107,d108,d109,d110]
   exact ⟨none,0,0,by simp,W6w,rfl,World.ownsRow_nil _ _ _ _⟩
theorem readEntry_c (s:ByteArray) (w:World) (hs:s.size < 1000000) {v0:Int} {v1:ByteArray} {v2:ByteArray} {v3:Int} {v4:Int} {v5:Int} {v7:Int} {v8:Int} {v9:Int} {v10:Int} {L:List (List Int)} {r:Nat} (hr:decG csEntry s.data.toList = ([ValN.num v0,ValN.txt v1,ValN.txt v2,ValN.num v3,ValN.num v4,ValN.num v5,ValN.lst L,ValN.num v7,ValN.num v8,ValN.num v9,ValN.num v10],r)) :
 Calls Tryz.prog 86 #[.string s] w fun e w' => ∃ (A:Option Addr) (n cap:Nat),e = .returned (.tuple #[.agg #[.int .i64 v0,.string v1,.string v2,.int .i64 v3,.int .i64 v4,.int .i64 v5,.slice A n cap,.int .i64 v7,.int .i64 v8,.int .u64 v9,.bool (v10 == 1)],.int .i64 (r:Int)]) ∧ Wider w w' ∧ L.length = n ∧ w'.ownsRow w.heap.size 28 1 (.slice A n cap) n (cellsK ksArg L):=by
 have H:=(Own.nil (Wider.refl w)).blk #[.int .i64 0,.string ⟨#[]⟩,.string ⟨#[]⟩,.int .i64 0,.int .i64 0,.int .i64 0,.slice none 0 0,.int .i64 0,.int .i64 0,.int .u64 0,.bool false] 39
 have zr:=rdEntry_c s (w.alloc (.cells #[.int .i64 0,.string ⟨#[]⟩,.string ⟨#[]⟩,.int .i64 0,.int .i64 0,.int .i64 0,.slice none 0 0,.int .i64 0,.int .i64 0,.int .u64 0,.bool false] 39)) hs hr
 have HH:=Lib.hid H
 clear hr H
 go_enter Tryz.func86,Tryz.ntmps86
 go_wp2_with (first
  | (go_at_call 130; (with_reducible refine zr.mono ?_); rintro e wB ⟨A,n,cap,rfl,g1,hLn,hLo⟩; have H1:=HH.out.quiet g1; have hR3:=H1.head)
  | (with_reducible refine wpList_store_row rfl 39 (.tmp 2) (.tmp 6) rfl w.heap.size #[.int .i64 v0,.string v1,.string v2,.int .i64 v3,.int .i64 v4,.int .i64 v5,.slice A n cap,.int .i64 v7,.int .i64 v8,.int .u64 v9,.bool (v10 == 1)] rfl rfl 39 #[.int .i64 0,.string ⟨#[]⟩,.string ⟨#[]⟩,.int .i64 0,.int .i64 0,.int .i64 0,.slice none 0 0,.int .i64 0,.int .i64 0,.int .u64 0,.bool false] hR3 (by kernel_rfl) rfl (by simp [Value.oneCell']) ?_; obtain ⟨g6,h6⟩:=setRow_facts #[.int .i64 v0,.string v1,.string v2,.int .i64 v3,.int .i64 v4,.int .i64 v5,.slice A n cap,.int .i64 v7,.int .i64 v8,.int .u64 v9,.bool (v10 == 1)] hR3))
 have W6w:Wider w _:=g6.wider H1.wider (by intro i m; simp only [List.mem_singleton] at m; omega)
 have d100:=blk_cell h6 0 (v:=.int .i64 v0) rfl
 have d101:=blk_cell h6 1 (v:=.string v1) rfl
 have d102:=blk_cell h6 2 (v:=.string v2) rfl
 have d103:=blk_cell h6 3 (v:=.int .i64 v3) rfl
 have d104:=blk_cell h6 4 (v:=.int .i64 v4) rfl
 have d105:=blk_cell h6 5 (v:=.int .i64 v5) rfl
 have d106:=blk_cell h6 6 (v:=.slice A n cap) rfl
 have d107:=blk_cell h6 7 (v:=.int .i64 v7) rfl
 have d108:=blk_cell h6 8 (v:=.int .i64 v8) rfl
 have d109:=blk_cell h6 9 (v:=.int .u64 v9) rfl
 have d110:=blk_cell h6 10 (v:=.bool (v10 == 1)) rfl
 simp [bodyPost,results,Tryz.results86,go_sem,d100,d101,d102,d103,d104,d105,d106,d107,d108,d109,d110]
 have hz:(w.alloc (.cells #[.int .i64 0,.string ⟨#[]⟩,.string ⟨#[]⟩,.int .i64 0,.int .i64 0,.int .i64 0,.slice none 0 0,.int .i64 0,.int .i64 0,.int .u64 0,.bool false] 39)).heap.size = w.heap.size + 1:=by simp
 exact ⟨A,n,cap,by simp,W6w,hLn,ownsRow_less (ownsRow_heap hLo fun i hi => g6.heap i (hLo.lt i (by simpa using hi)).2 (by have:=(hLo.lt i (by simpa using hi)).1; simp; omega)) (by omega)⟩
def RepEntry (w:World) (c:Array Value) (vs:List ValN):Prop :=
 ∃ (v0 v3 v4 v5 v7 v8 v9:Int) (v1 v2:ByteArray) (v10:Bool) (A:Option Addr) (n cap:Nat) (L:List (List Int)),c = #[.int .i64 v0,.string v1,.string v2,.int .i64 v3,.int .i64 v4,.int .i64 v5,.slice A n cap,.int .i64 v7,.int .i64 v8,.int .u64 v9,.bool v10] ∧ vs = [ValN.num v0,ValN.txt v1,ValN.txt v2,ValN.num v3,ValN.num v4,ValN.num v5,ValN.lst L,ValN.num v7,ValN.num v8,ValN.num v9,ValN.num (if v10 = true then 1 else 0)] ∧ (Lit.int .i64 v0).wf = true ∧ v1.size ≤ maxLen ∧ v2.size ≤ maxLen ∧ (Lit.int .i64 v3).wf = true ∧ (Lit.int .i64 v4).wf = true ∧ (Lit.int .i64 v5).wf = true ∧ (Lit.int .i64 v7).wf = true ∧ (Lit.int .i64 v8).wf = true ∧ (Lit.int .u64 v9).wf = true ∧ RowAt w A 1 (rowsK ksArg L) ∧ L.length = n ∧ n < 1000000 ∧ ∀ x ∈ L,wfK ksArg x
theorem RepEntry.on {W w:World} {c:Array Value} {vs:List ValN} (h:RepEntry W c vs) (g:Wider W w):RepEntry w c vs:=by
 obtain ⟨v0,v3,v4,v5,v7,v8,v9,v1,v2,v10,A,n,cap,L,rfl,rfl,w0,w1,w2,w3,w4,w5,w7,w8,w9,hA,hn,hn9,hL⟩:=h
 exact ⟨v0,v3,v4,v5,v7,v8,v9,v1,v2,v10,A,n,cap,L,rfl,rfl,w0,w1,w2,w3,w4,w5,w7,w8,w9,hA.on g,hn,hn9,hL⟩
theorem RepEntry.size {w:World} {c:Array Value} {vs:List ValN} (h:RepEntry w c vs):c.size = 11:=by
 obtain ⟨v0,v3,v4,v5,v7,v8,v9,v1,v2,v10,A,n,cap,L,rfl,rfl,w0,w1,w2,w3,w4,w5,w7,w8,w9,hA,hn,hn9,hL⟩:=h
 rfl
theorem RepEntry.put {w:World} {c:Array Value} {vs:List ValN} (h:RepEntry w c vs) {T:ByteArray} {r:Nat} (hr:PutG csEntry vs T r) :
 Calls Tryz.prog 115 #[.agg c] w fun e w' => e = .returned (.tuple #[.string T,.int .i64 (r:Int)]) ∧ Wider w w':=by
 obtain ⟨v0,v3,v4,v5,v7,v8,v9,v1,v2,v10,A,n,cap,L,rfl,rfl,w0,w1,w2,w3,w4,w5,w7,w8,w9,hA,hn,hn9,hL⟩:=h
 exact putEntry_c w (w0:=w0) (w1:=w1) (w2:=w2) (w3:=w3) (w4:=w4) (w5:=w5) (w7:=w7) (w8:=w8) (w9:=w9) (hA:=hA) (hn:=hn) (hn9:=hn9) (hL:=hL) hr
theorem repEntry_read (s:ByteArray) (w:World) (hs:s.size < 1000000) {vs:List ValN} {r:Nat} (hr:decG csEntry s.data.toList = (vs,r)) :
 Calls Tryz.prog 86 #[.string s] w fun e w' => ∃ c,e = .returned (.tuple #[.agg c,.int .i64 (r:Int)]) ∧ Wider w w' ∧ ∀ W,Keeps w.heap.size w' W → RepEntry W c vs:=by
 have ok:=okG_dec csEntry hr
 match vs,ok with
 | [a0,a1,a2,a3,a4,a5,a6,a7,a8,a9,a10],ok =>
   obtain ⟨⟨v0,rfl,q0⟩,⟨v1,rfl,q1⟩,⟨v2,rfl,q2⟩,⟨v3,rfl,q3⟩,⟨v4,rfl,q4⟩,⟨v5,rfl,q5⟩,⟨L,rfl,hL1,hL2⟩,⟨v7,rfl,q7⟩,⟨v8,rfl,q8⟩,⟨v9,rfl,q9⟩,⟨v10,rfl,q10⟩,_⟩:=ok
   refine (readEntry_c s w hs hr).mono ?_
   rintro e w1 ⟨A,n,cap,rfl,g,hn,hO⟩
   have hb:(if (v10 == 1) = true then (1:Int) else 0) = v10:=by
    have q:0 ≤ v10 ∧ v10 ≤ 1:=q10
    by_cases e:v10 = 1
    · subst e; rfl
    · have e0:v10 = 0:=by omega
      subst e0; rfl
   exact ⟨_,rfl,g,fun W kW => ⟨v0,v3,v4,v5,v7,v8,v9,v1,v2,(v10 == 1),A,n,cap,L,rfl,by rw [hb],wf_i64 (by have q:=q0; exact ⟨q.1,Int.le_trans q.2 (by decide)⟩),by have q:v1.size ≤ 32:=q1; unfold maxLen; omega,by have q:v2.size ≤ 32:=q2; unfold maxLen; omega,wf_i64 (by have q:=q3; exact ⟨q.1,Int.le_trans q.2 (by decide)⟩),wf_i64 (by have q:=q4; exact ⟨q.1,Int.le_trans q.2 (by decide)⟩),wf_i64 (by have q:=q5; exact ⟨q.1,Int.le_trans q.2 (by decide)⟩),wf_i64 (by have q:=q7; exact ⟨q.1,Int.le_trans q.2 (by decide)⟩),wf_i64 (by have q:=q8; exact ⟨q.1,Int.le_trans q.2 (by decide)⟩),wf_u64 (by have q:=q9; exact ⟨q.1,Int.le_trans q.2 (by decide)⟩),rowK_own (ks:=ksArg) rfl (by decide) hn (fun x hx => lenArg x (hL2 x hx)) (ownsRow_heap hO fun i hi => kW.2 i (hO.lt i (by simpa using hi)).1 (hO.lt i (by simpa using hi)).2),hn,by omega,fun x hx => wfArg (hL2 x hx)⟩⟩
end Go.Proofs.YtoopdhgmdjienaaGreatDoor
