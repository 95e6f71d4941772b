/- ZCopy -/
import Derived.Test.YtbnpelciceblfaaGreatQ34
namespace Go.Proofs.YtbnpelciceblfaaGreat
set_option linter.unusedVariables false
open Go.ChangeShapes Go.WideShapes Go.ChangeAt Go.RowKit Go.Joins
set_option maxHeartbeats 64000000
theorem copy_box {V w:World} {A B R:List Thing} {t:Thing} (H:Own V w (A ++ (B ++ (t :: R)))):Own V w (t :: (A ++ (B ++ R))):=H.perm ((List.perm_middle.append_left A).trans List.perm_middle)
theorem copy_perm (a b c x y z:Thing) (E F X:List Thing):(a :: (E ++ (F ++ (b :: c :: x :: y :: z :: X)))).Perm ((a :: c :: b :: E) ++ ((x :: y :: z :: F) ++ X)):=by
 refine List.Perm.cons a ?_
 have p1:(E ++ (F ++ ([b,c] ++ (x :: y :: z :: X)))).Perm ([b,c] ++ (E ++ (F ++ (x :: y :: z :: X)))):=((perm_mid F [b,c] _).append_left E).trans (perm_mid E [b,c] _)
 have p2:(F ++ ([x,y,z] ++ X)).Perm ([x,y,z] ++ (F ++ X)):=perm_mid F [x,y,z] X
 exact p1.trans ((List.Perm.swap c b _).trans (List.Perm.cons c (List.Perm.cons b (p2.append_left E))))
theorem copy_end {V W:World} {R Xs Es Es2 Es3:List Thing} {S C nE kn cI hc c0 kc:Nat} {s:StM} {t:TabV} {kv ev hv T0v v5:Value} {T5:TypeId} {ws:List Nat} {last:Nat} {E:List HeldP} {BI HI A0 KA:Option Addr} {su la:Int} {CE KE:List Value} {CC:Array Value}
 (K:Own V W (blkT C (CC.setIfInBounds 6 (.iface T5 v5)) 72 :: (Es2 ++ (Es3 ++ (rowT 77 14 (.slice HI nE hc) nE CE :: rowT 3 1 (.slice BI kn cI) kn KE :: blkT S (stoC ⟨t,kv,ws,ev,hv,last,E,Es⟩) 72 :: rowK ⟨t,kv,ws,ev,hv,last,E,Es⟩ :: rowHd ⟨t,kv,ws,ev,hv,last,E,Es⟩ :: (Xs ++ R))))))
 (h:E.length = nE ∧ t.keys.length = kn ∧ (ws.sum:Int) = su ∧ cellsHs E = CE ∧ intsZ t.keys = KE ∧ (last:Int) = la ∧ hv = .slice A0 E.length c0 ∧ kv = .slice KA t.keys.length kc ∧ ev = T0v) (f:StF ⟨t,kv,ws,ev,hv,last,E,Es⟩ Xs s) (he:EngA t.kind ws (.iface T5 v5) Es2 Xs (E.map HeldP.kp) s.n ∧ EngA t.kind ws ev Es3 Xs (E.map HeldP.kp) s.n)
 (hC:CC.setIfInBounds 6 (.iface T5 v5) = #[.int .i64 t.id,.int .u8 t.kind,.slice BI kn cI,.int .i64 t.cap,.int .i64 t.miss,.int .i64 su,.iface T5 v5,.slice HI nE hc,.int .i64 la]) :
 ∃ T d2 Es3,Ending.returned (pS C) = .returned (pS T) ∧ Own V W (StoD.things T d2 ++ (StoD.things S ⟨t,kv,ws,ev,hv,last,E,Es3⟩ ++ (Xs ++ R))) ∧ StF d2 Xs s ∧ StF ⟨t,kv,ws,ev,hv,last,E,Es3⟩ Xs s:=by
 obtain ⟨h1,h2,h3,h4,h5,h6,h7,h8,h9⟩:=h
 obtain ⟨e1,e2⟩:=he
 rw [hC] at K
 subst h1 h2 h3 h4 h5 h6
 refine ⟨C,⟨t,.slice BI t.keys.length cI,ws,.iface T5 v5,.slice HI E.length hc,last,E,Es2⟩,Es3,rfl,?_,?_,?_⟩
 · exact K.perm (copy_perm _ _ _ _ _ _ _ _ _)
 · exact ⟨f.k1,f.k4,f.w0,f.w4,f.w16,f.keys,e1,f.engf,f.args,f.asc,f.last,f.last2,f.hL,f.hkm,f.hcap,f.hid,f.good⟩
 · exact ⟨f.k1,f.k4,f.w0,f.w4,f.w16,f.keys,e2,f.engf,f.args,f.asc,f.last,f.last2,f.hL,f.hkm,f.hcap,f.hid,f.good⟩
set_option maxRecDepth 20000 in
theorem zcopy_a {V w:World} {R Xs:List Thing} {S:Nat} {s:StM} {d:StoD} (H:Own V w (d.things S ++ (Xs ++ R))) (f:StF d Xs s) (hN:s.n < 99990) :
 Calls Tryz.prog 20 #[pS S] w fun e w' => ∃ T d2 Es3,e = .returned (pS T) ∧ Own V w' (d2.things T ++ (({ d with Es:=Es3 } : StoD).things S ++ (Xs ++ R))) ∧ StF d2 Xs s ∧ StF { d with Es:=Es3 } Xs s:=by
 have hsl:Sliced d.E:=fun h hh => by
  obtain ⟨A,c,e⟩:=ownsRow_shape (H.holds _ (List.mem_append_right _ (List.mem_append_left _ (f.args h hh))))
  exact ⟨A,_,c,e⟩
 have htw:=engA_twin f.eng hN
 have hEl:d.E.length < 100000:=by
  have a:=f.good.l.len
  have b:=f.good.c2
  rw [f.hL,List.length_map] at a
  omega
 obtain ⟨A0,c0,ehv,hv0,hv1⟩:=row_src (H.holds (rowHd d) (.tail _ (.tail _ (.head _))))
 obtain ⟨KA,kc,ekv,hk0,hk1⟩:=row_src (H.holds (rowK d) (.tail _ (.head _)))
 have hk:NumsAt w (.slice KA d.t.keys.length kc) d.t.keys:=⟨KA,_,kc,rfl,rfl,fun e => List.eq_nil_of_length_eq_zero (hk0 e),fun a e j z hz => hk1 a e j _ (by unfold intsZ; rw [List.getElem?_map,hz]; rfl)⟩
 have zo:=fun (R':List Thing) (W:World) (HW:Own w W R') => zowntab_c HW d.t (hk.on HW.wider) (by have:=f.keys; omega)
 have zh:=fun (R':List Thing) (W:World) (HW:Own w W R') => zcloneH_c HW (A:=A0) (n:=d.E.length) (c:=c0) (xs:=cellsHs d.E) (cellsHs_length _) hEl hv0 (fun a e j u hj => wkeep HW.wider (hv1 a e j u hj)) (cellsHs_one hsl)
 obtain ⟨T0,v0,hev⟩:=engA_some f.eng
 obtain ⟨nE,hnE⟩ : ∃ n,d.E.length = n:=⟨_,rfl⟩
 obtain ⟨kn,hkn⟩ : ∃ n,d.t.keys.length = n:=⟨_,rfl⟩
 obtain ⟨su,hsu⟩ : ∃ n,(d.ws.sum:Int) = n:=⟨_,rfl⟩
 obtain ⟨CE,hCE⟩ : ∃ l,cellsHs d.E = l:=⟨_,rfl⟩
 obtain ⟨KE,hKE⟩ : ∃ l,intsZ d.t.keys = l:=⟨_,rfl⟩
 obtain ⟨la,hla⟩ : ∃ n,(d.last:Int) = n:=⟨_,rfl⟩
 have hb:w.heap[S]? = some (.cells (stoC d) 72 (0,0)):=H.head
 have HD:=Lib.hid (And.intro hnE (And.intro hkn (And.intro hsu (And.intro hCE (And.intro hKE (And.intro hla (And.intro ehv (And.intro ekv hev))))))))
 rw [hnE,hCE] at zh
 rw [hkn,hKE] at zo
 unfold stoC at hb
 rw [ekv,hkn,ehv,hnE,hsu,hla,hev] at hb
 have HTW:=Lib.hid htw
 have HH:=Lib.hid H
 have FF:=Lib.hid f
 obtain ⟨t,kv,ws,ev,hv,last,E,Es⟩:=d
 obtain ⟨id,kind,keys,cap,miss⟩:=t
 simp only at hb
 have zo:∀ (R':List Thing) (W:World),Own w W R' → Calls Tryz.prog 35 #[.agg #[.int .i64 id,.int .u8 kind,.slice KA kn kc,.int .i64 cap,.int .i64 miss]] W fun e w' => ∃ B c',e = .returned (.agg #[.int .i64 id,.int .u8 kind,.slice B kn c',.int .i64 cap,.int .i64 miss]) ∧ Own w w' (rowT 3 1 (.slice B kn c') kn KE :: R'):=zo
 have HZ:=Lib.hid (And.intro zo zh)
 have HB:=Lib.hid hb
 clear H f hsl htw hEl ehv hv0 hv1 ekv hk0 hk1 hk zo zh hev hnE hkn hsu hCE hKE hla
 show Calls Tryz.prog 20 #[.pointer (some ⟨S,0,none⟩)] w _
 refine by_post fun Q hQ => ?_
 have HQ:=Lib.hid hQ
 clear hQ
 go_enter Tryz.func20,Tryz.ntmps20
 go_upto_region 4 with (first
  | (with_reducible refine wpList_load_row rfl 72 (.tmp 7) rfl S rfl 72 #[.int .i64 id,.int .u8 kind,.slice KA kn kc,.int .i64 cap,.int .i64 miss,.int .i64 su,.iface T0 v0,.slice A0 nE c0,.int .i64 la] (0,0) _ hb Tryz.underlying72 rfl (by kernel_rfl) ?_))
 have K0:=(Own.nil (Wider.refl w)).blk #[.int .i64 id,.int .u8 kind,.slice KA kn kc,.int .i64 cap,.int .i64 miss,.int .i64 su,.iface T0 v0,.slice A0 nE c0,.int .i64 la] 72
 obtain ⟨W0,hW0⟩ : ∃ W,w.alloc (.cells #[.int .i64 id,.int .u8 kind,.slice KA kn kc,.int .i64 cap,.int .i64 miss,.int .i64 su,.iface T0 v0,.slice A0 nE c0,.int .i64 la] 72) = W:=⟨_,rfl⟩
 obtain ⟨C,hC⟩ : ∃ C,w.heap.size = C:=⟨_,rfl⟩
 rw [hW0,hC] at K0
 try rw [hW0]
 try rw [hC]
 have HK:=Lib.hid (K0.quiet (Wider.refl _).drew)
 clear K0 hb hW0 hC
 refine' leaf_key5 (C:=fun W BI cI HI hc => Own w W [blkT C #[.int .i64 id,.int .u8 kind,.slice BI kn cI,.int .i64 cap,.int .i64 miss,.int .i64 su,.iface T0 v0,.slice HI nE hc,.int .i64 la] 72,rowT 77 14 (.slice HI nE hc) nE CE,rowT 3 1 (.slice BI kn cI) kn KE]) ?key ?lea
 case lea =>
  intro KEY
  have K0:=HK.out
  obtain ⟨zo,zh⟩:=HZ.out
  have hb:=HB.out
  have q0:=wkeep K0.wider (blk_cell hb 0 (v:=.int .i64 id) rfl); have q1:=wkeep K0.wider (blk_cell hb 1 (v:=.int .u8 kind) rfl); have q2:=wkeep K0.wider (blk_cell hb 2 (v:=.slice KA kn kc) rfl); have q3:=wkeep K0.wider (blk_cell hb 3 (v:=.int .i64 cap) rfl); have q4:=wkeep K0.wider (blk_cell hb 4 (v:=.int .i64 miss) rfl); have q7:=wkeep K0.wider (blk_cell hb 7 (v:=.slice A0 nE c0) rfl)
  have HB2:=Lib.hid hb
  clear hb
  have zo0:=zo _ _ K0
  clear zo
  go_region_law (first
   | (go_simp; go_at_call 35; ((with_reducible refine zo0.mono ?_); rintro e w2 ⟨BI,cI,rfl,K2⟩; clear zo0 q0 q1 q2 q3 q4 q7; have q0:=wkeep K2.wider (blk_cell HB2.out 0 (v:=.int .i64 id) rfl); have q1:=wkeep K2.wider (blk_cell HB2.out 1 (v:=.int .u8 kind) rfl); have q2:=wkeep K2.wider (blk_cell HB2.out 2 (v:=.slice KA kn kc) rfl); have q3:=wkeep K2.wider (blk_cell HB2.out 3 (v:=.int .i64 cap) rfl); have q4:=wkeep K2.wider (blk_cell HB2.out 4 (v:=.int .i64 miss) rfl); have q7:=wkeep K2.wider (blk_cell HB2.out 7 (v:=.slice A0 nE c0) rfl); have zh0:=zh _ _ K2))
   | (go_simp; go_at_call 44; ((with_reducible refine zh0.mono ?_); rintro e w3 ⟨HI,hc,rfl,K3⟩; clear zh0 q0 q1 q2 q3 q4 q7; have K4:=K3.rot3; have f0:=blk_cell K4.head 0 (v:=.int .i64 id) rfl; have f1:=blk_cell K4.head 1 (v:=.int .u8 kind) rfl; have f2:=blk_cell K4.head 2 (v:=.slice KA kn kc) rfl; have f3:=blk_cell K4.head 3 (v:=.int .i64 cap) rfl; have f4:=blk_cell K4.head 4 (v:=.int .i64 miss) rfl; have f7:=blk_cell K4.head 7 (v:=.slice A0 nE c0) rfl; have g0:=blk_free K4.head 0; have g1:=blk_free K4.head 1; have g2:=blk_free K4.head 2; have g3:=blk_free K4.head 3; have g4:=blk_free K4.head 4; have g7:=blk_free K4.head 7)))
  all_goals
   have K5:Own w _ [blkT C #[.int .i64 id,.int .u8 kind,.slice BI kn cI,.int .i64 cap,.int .i64 miss,.int .i64 su,.iface T0 v0,.slice HI nE hc,.int .i64 la] 72,rowT 77 14 (.slice HI nE hc) nE CE,rowT 3 1 (.slice BI kn cI) kn KE]:=(((((K4.store 0 (.int .i64 id)).store 1 (.int .u8 kind)).store 2 (.slice BI kn cI)).store 3 (.int .i64 cap)).store 4 (.int .i64 miss)).store 7 (.slice HI nE hc)
   obtain ⟨W,hW⟩ : ∃ W,(((((w3.setCell ⟨C,0,none⟩ (.int .i64 id)).setCell ⟨C,1,none⟩ (.int .u8 kind)).setCell ⟨C,2,none⟩ (.slice BI kn cI)).setCell ⟨C,3,none⟩ (.int .i64 cap)).setCell ⟨C,4,none⟩ (.int .i64 miss)).setCell ⟨C,7,none⟩ (.slice HI nE hc) = W:=⟨_,rfl⟩
   rw [hW] at K5 ⊢
   exact KEY.out W BI cI HI hc K5
 case key =>
  intro W BI cI HI hc K
  have c6:=wkeep K.wider (blk_cell HB.out 6 (v:=.iface T0 v0) rfl)
  have H1:=HH.out.over K
  have H2:Own V W (Es ++ (blkT C #[.int .i64 id,.int .u8 kind,.slice BI kn cI,.int .i64 cap,.int .i64 miss,.int .i64 su,.iface T0 v0,.slice HI nE hc,.int .i64 la] 72 :: rowT 77 14 (.slice HI nE hc) nE CE :: rowT 3 1 (.slice BI kn cI) kn KE :: blkT S (stoC ⟨⟨id,kind,keys,cap,miss⟩,kv,ws,ev,hv,last,E,Es⟩) 72 :: rowK ⟨⟨id,kind,keys,cap,miss⟩,kv,ws,ev,hv,last,E,Es⟩ :: rowHd ⟨⟨id,kind,keys,cap,miss⟩,kv,ws,ev,hv,last,E,Es⟩ :: (Xs ++ R))):=H1.perm (perm_mid [_,_,_,_,_,_] Es (Xs ++ R))
  have HEV:=Lib.hid HD.out.2.2.2.2.2.2.2.2
  clear H1 K
  rcases HTW.out with ⟨p,hev0,hz⟩ | ⟨Z,hev0,hz⟩ | ⟨Z,hev0,hz⟩ | ⟨Z,D,nw,cw,hev0,hz⟩
  · have hev:=hev0.symm.trans HEV.out
    injection hev with e1 e2
    subst e1 e2
    have zt:∀ (V W:World) (R2:List Thing),Own V W (Es ++ R2) → Calls Tryz.prog 82 #[.agg #[.pointer (some p)]] W fun e w2 => ∃ T v Es2 Es3,e = .returned (.iface T v) ∧ Own V w2 (Es2 ++ (Es3 ++ R2)) ∧ EngA kind ws (.iface T v) Es2 Xs (E.map HeldP.kp) s.n ∧ EngA kind ws ev Es3 Xs (E.map HeldP.kp) s.n:=hz
    have zt0:=zt _ _ _ H2
    clear hz zt H2 hev0
    go_wp2_with (first
     | (go_at_call 82; ((with_reducible refine zt0.mono ?_); rintro e w5 ⟨T5,v5,Es2,Es3,rfl,K9,h2,h3⟩; have K8:=own_rest (own_rest K9); have f6:=blk_cell K8.head 6 (v:=.iface 102 (.agg #[.pointer (some p)])) rfl; have g6:=blk_free K8.head 6; have K10:=(copy_box K9).store 6 (.iface T5 v5); have HEN:=Lib.hid (And.intro h2 h3); clear zt0 K9 K8 h2 h3)))
    refine HQ.out _ _ (copy_end K10 HD.out FF.out HEN.out rfl)
  · have hev:=hev0.symm.trans HEV.out
    injection hev with e1 e2
    subst e1 e2
    have zt:∀ (V W:World) (R2:List Thing),Own V W (Es ++ R2) → Calls Tryz.prog 104 #[.agg #[.pointer (some ⟨Z,0,none⟩)]] W fun e w2 => ∃ T v Es2 Es3,e = .returned (.iface T v) ∧ Own V w2 (Es2 ++ (Es3 ++ R2)) ∧ EngA kind ws (.iface T v) Es2 Xs (E.map HeldP.kp) s.n ∧ EngA kind ws ev Es3 Xs (E.map HeldP.kp) s.n:=hz
    have zt0:=zt _ _ _ H2
    clear hz zt H2 hev0
    go_wp2_with (first
     | (go_at_call 104; ((with_reducible refine zt0.mono ?_); rintro e w5 ⟨T5,v5,Es2,Es3,rfl,K9,h2,h3⟩; have K8:=own_rest (own_rest K9); have f6:=blk_cell K8.head 6 (v:=.iface 106 (.agg #[.pointer (some ⟨Z,0,none⟩)])) rfl; have g6:=blk_free K8.head 6; have K10:=(copy_box K9).store 6 (.iface T5 v5); have HEN:=Lib.hid (And.intro h2 h3); clear zt0 K9 K8 h2 h3)))
    refine HQ.out _ _ (copy_end K10 HD.out FF.out HEN.out rfl)
  · have hev:=hev0.symm.trans HEV.out
    injection hev with e1 e2
    subst e1 e2
    have zt:∀ (V W:World) (R2:List Thing),Own V W (Es ++ R2) → Calls Tryz.prog 131 #[.agg #[.pointer (some ⟨Z,0,none⟩)]] W fun e w2 => ∃ T v Es2 Es3,e = .returned (.iface T v) ∧ Own V w2 (Es2 ++ (Es3 ++ R2)) ∧ EngA kind ws (.iface T v) Es2 Xs (E.map HeldP.kp) s.n ∧ EngA kind ws ev Es3 Xs (E.map HeldP.kp) s.n:=hz
    have zt0:=zt _ _ _ H2
    clear hz zt H2 hev0
    go_wp2_with (first
     | (go_at_call 131; ((with_reducible refine zt0.mono ?_); rintro e w5 ⟨T5,v5,Es2,Es3,rfl,K9,h2,h3⟩; have K8:=own_rest (own_rest K9); have f6:=blk_cell K8.head 6 (v:=.iface 110 (.agg #[.pointer (some ⟨Z,0,none⟩)])) rfl; have g6:=blk_free K8.head 6; have K10:=(copy_box K9).store 6 (.iface T5 v5); have HEN:=Lib.hid (And.intro h2 h3); clear zt0 K9 K8 h2 h3)))
    refine HQ.out _ _ (copy_end K10 HD.out FF.out HEN.out rfl)
  · have hev:=hev0.symm.trans HEV.out
    injection hev with e1 e2
    subst e1 e2
    have zt:∀ (V W:World) (R2:List Thing),Own V W (Es ++ R2) → Calls Tryz.prog 185 #[.agg #[.pointer (some ⟨Z,0,none⟩),.slice D nw cw]] W fun e w2 => ∃ T v Es2 Es3,e = .returned (.iface T v) ∧ Own V w2 (Es2 ++ (Es3 ++ R2)) ∧ EngA kind ws (.iface T v) Es2 Xs (E.map HeldP.kp) s.n ∧ EngA kind ws ev Es3 Xs (E.map HeldP.kp) s.n:=hz
    have zt0:=zt _ _ _ H2
    clear hz zt H2 hev0
    go_wp2_with (first
     | (go_at_call 185; ((with_reducible refine zt0.mono ?_); rintro e w5 ⟨T5,v5,Es2,Es3,rfl,K9,h2,h3⟩; have K8:=own_rest (own_rest K9); have f6:=blk_cell K8.head 6 (v:=.iface 115 (.agg #[.pointer (some ⟨Z,0,none⟩),.slice D nw cw])) rfl; have g6:=blk_free K8.head 6; have K10:=(copy_box K9).store 6 (.iface T5 v5); have HEN:=Lib.hid (And.intro h2 h3); clear zt0 K9 K8 h2 h3)))
    refine HQ.out _ _ (copy_end K10 HD.out FF.out HEN.out rfl)
theorem ycopy_c {V w:World} {R:List Thing} {S:Nat} {s:StM} (h:StoreIs V w R S s) (hN:s.n < 99990) :
 Calls Tryz.prog 20 #[pS S] w fun e w' => ∃ T,e = .returned (pS T) ∧ StoreTwo V w' R T s S s:=by
 obtain ⟨Xs,Ts,H,d,rfl,f⟩:=h
 refine (zcopy_a H f hN).mono ?_
 rintro e w' ⟨T,d2,Es3,rfl,K,f2,f3⟩
 refine ⟨T,rfl,_,Xs,⟨_,K.perm ((perm_mid _ Xs R).append_left _),d2,rfl,f2⟩,_,rfl,f3⟩
end Go.Proofs.YtbnpelciceblfaaGreat
