/- ZPutH ZCodeL -/
import Derived.Test.YtbnpelciceblfaaGreatQ29
namespace Go.Proofs.YtbnpelciceblfaaGreat
set_option linter.unusedVariables false
open Go.ChangeShapes Go.WideShapes Go.ChangeAt Go.RowKit Go.Joins
set_option maxHeartbeats 64000000
set_option maxRecDepth 20000 in
theorem zputH_a {V w:World} {R Xs:List Thing} {S:Nat} {d:StoD} {s:StM} (H:Own V w (d.things S ++ (Xs ++ R))) (f:StF d Xs s) (hN:s.n < 99990) (x:EntV) {A:Option Addr} {n c:Nat} (ha:∀ W,Own V W R → ArgsAt W (.slice A n c) x.args) (ho:x.Ok) (hm:mayT s x = true) {A0 C0:List HeldP} {y:HeldP} (eE:d.E = A0 ++ y :: C0) (hy:OneE y.x x) (hA:∀ z ∈ A0,¬ OneE z.x x) (now:Int) :
 Calls Tryz.prog 10 #[pS S,entV x (.slice A n c),.int .i64 now] w fun e w' => e = .returned (.int .i64 0) ∧ ∃ BI cI hv Es2,x.args.length = n ∧ Own V w' (({ d with hv:=hv,last:=d.last + 1,E:=(A0 ++ C0) ++ [⟨x,.slice BI n cI,d.last + 1,clampT now,clampT now⟩],Es:=Es2 } : StoD).things S ++ ((argA x (.slice BI n cI) :: Xs) ++ R)) ∧ EngA d.t.kind d.ws d.ev Es2 (argA x (.slice BI n cI) :: Xs) (((A0 ++ C0) ++ [(⟨x,.slice BI n cI,d.last + 1,clampT now,clampT now⟩ : HeldP)]).map HeldP.kp) (s.n + 1):=by
 have hn:x.args.length = n:=by
  obtain ⟨_,_,_,e,l,_⟩:=ha w (own_rest (own_rest H))
  injection e with e1 e2 e3
  rw [l,e2]
 obtain ⟨hfx,htb,_,_⟩:=mayT_fit f.hkm hm
 obtain ⟨sk,so⟩:=fit_small f.k1 f.k4 f.engf.w32 hfx
 have n4:n ≤ 4:=by
  unfold mayT at hm
  rw [Bool.and_eq_true,decide_eq_true_eq] at hm
  rw [← hn]; exact hm.1.2.2.2.1
 have slc:=f.sliced H (fun t ht => List.mem_append_right _ (List.mem_append_left _ ht))
 have hlen:=f.len
 have hyk:OneK y.x x:=hy.2
 have hfy:FitX d.t.kind d.ws y.x:=f.engf.fit (HeldP.kp y) (List.mem_map.2 ⟨y,by rw [eE]; simp,rfl⟩)
 have hym:∃ m ∈ d.E.map HeldP.kp,OneK m.1 y.x:=⟨HeldP.kp y,List.mem_map.2 ⟨y,by rw [eE]; simp,rfl⟩,rfl,rfl,rfl,rfl⟩
 have hbut:butM (d.E.map HeldP.kp) y.x = (A0 ++ C0).map HeldP.kp:=by
  have nd:=f.engf.nd
  rw [eE,List.map_append,List.map_cons] at nd ⊢
  obtain ⟨h1,h2,h3⟩:=List.pairwise_append.1 nd
  have ea:butM (A0.map HeldP.kp) y.x = A0.map HeldP.kp:=butM_none fun a ha q => h3 a ha (HeldP.kp y) (.head _) q
  have eb:butM (C0.map HeldP.kp) y.x = C0.map HeldP.kp:=butM_none fun b hb q => (List.pairwise_cons.1 h2).1 b hb q.symm
  have e1:butM (A0.map HeldP.kp ++ HeldP.kp y :: C0.map HeldP.kp) y.x = butM (A0.map HeldP.kp) y.x ++ butM (HeldP.kp y :: C0.map HeldP.kp) y.x:=by unfold butM; rw [List.filter_append]
  have e2:butM (HeldP.kp y :: C0.map HeldP.kp) y.x = butM (C0.map HeldP.kp) y.x:=by unfold butM; rw [List.filter_cons,if_neg (by simp [HeldP.kp,OneK])]
  rw [e1,e2,ea,eb,List.map_append]
 have hno2:∀ m ∈ (A0 ++ C0).map HeldP.kp,¬ OneK m.1 x:=fun m hm q => by
  rw [← hbut] at hm
  exact (mem_butM.1 hm).2 ⟨q.1.trans hyk.1.symm,q.2.1.trans hyk.2.1.symm,q.2.2.1.trans hyk.2.2.1.symm,q.2.2.2.trans hyk.2.2.2.symm⟩
 have hl2:((A0 ++ C0).map HeldP.kp).length < 256:=by
  have:=congrArg List.length eE
  rw [List.length_append,List.length_cons] at this
  rw [List.length_map,List.length_append]; omega
 have hef:EngF d.t.kind d.ws ((A0 ++ C0).map HeldP.kp):=by rw [← hbut]; exact f.engf.but y.x
 have hidx:IndexH d.E x (A0.length:Int):=.inr ⟨A0,C0,y,eE,hy,hA,rfl⟩
 have hll:(A0 ++ C0).length ≤ 256:=by rw [List.length_map] at hl2; omega
 have H0:=own_box (H.blk #[.int .i64 x.tb,.string x.key,.string x.oth,.int .i64 x.ln,.int .i64 x.pr,.int .i64 x.bk,.slice A n c,.int .i64 x.idle,.int .i64 x.hard,.int .u64 x.ck,.bool x.tl] 26)
 have g0:=(Wider.refl w).alloc (.cells #[.int .i64 x.tb,.string x.key,.string x.oth,.int .i64 x.ln,.int .i64 x.pr,.int .i64 x.bk,.slice A n c,.int .i64 x.idle,.int .i64 x.hard,.int .u64 x.ck,.bool x.tl] 26)
 have zo:=fun (R':List Thing) (W:World) (HW:Own V W R') (hr:Own V W R) => zown_c HW x (ha W hr) (by omega) (by omega) (by omega)
 obtain ⟨B0,hB0⟩ : ∃ B,w.heap.size = B:=⟨_,rfl⟩
 obtain ⟨W0,hW0⟩ : ∃ W,w.alloc (.cells #[.int .i64 x.tb,.string x.key,.string x.oth,.int .i64 x.ln,.int .i64 x.pr,.int .i64 x.bk,.slice A n c,.int .i64 x.idle,.int .i64 x.hard,.int .u64 x.ck,.bool x.tl] 26) = W:=⟨_,rfl⟩
 have HW0:=Lib.hid (And.intro hW0 hB0)
 rw [hW0,hB0] at H0
 rw [hW0] at g0
 have zm:=zmay_a H0 f x (A:=A) (n:=n) (c:=c) hn ho (r:=0) (by rw [if_pos hm])
 have zs:=fun (W:World) (g:Wider W0 W) => zsame_c (H0.quiet g) slc (by omega) x A n c hidx
 have zt:=ztick_c now
 have entC:=fun (L:List Thing) (W:World) (K:Own V W L) (m:blkT B0 #[.int .i64 x.tb,.string x.key,.string x.oth,.int .i64 x.ln,.int .i64 x.pr,.int .i64 x.bk,.slice A n c,.int .i64 x.idle,.int .i64 x.hard,.int .u64 x.ck,.bool x.tl] 26 ∈ L) (i:Nat) (v:Value) (hv:(#[.int .i64 x.tb,.string x.key,.string x.oth,.int .i64 x.ln,.int .i64 x.pr,.int .i64 x.bk,.slice A n c,.int .i64 x.idle,.int .i64 x.hard,.int .u64 x.ck,.bool x.tl] : Array Value)[i]? = some v) => blk_cell (K.holds _ m) i hv
 have hev0:=engA_some f.eng
 obtain ⟨la,hla⟩ : ∃ la:Int,((d.last + 1:Nat):Int) = la:=⟨_,rfl⟩
 have l1:IntKind.i64.wrap ((d.last:Int) + 1) = la:=by
  have:=f.last2
  rw [← hla]
  simp [IntKind.wrap,IntKind.bits,IntKind.signed]; omega
 have HLA:=Lib.hid hla
 clear hla
 have HF:=Lib.hid f
 have HHH:=Lib.hid (And.intro hfx (And.intro hno2 (And.intro hl2 (And.intro hef (And.intro hn (And.intro hN (And.intro hll (And.intro slc hlen))))))))
 obtain ⟨nE,hnE⟩ : ∃ n,(A0 ++ C0).length = n:=⟨_,rfl⟩
 obtain ⟨nD,hnD⟩ : ∃ n,d.E.length = n:=⟨_,rfl⟩
 have HNE:=Lib.hid (And.intro hnE hnD)
 obtain ⟨ix,hix⟩ : ∃ i,A0.length = i:=⟨_,rfl⟩
 have zr:=fun {R2:List Thing} (W:World) (HW:Own V W (d.things S ++ R2)) => zremove_c HW slc (by omega) f.eng hN f.engf eE hfy hym hix
 rw [hbut] at zr
 rw [hix] at zs
 have i0:¬ (ix:Int) < 0:=by omega
 have i1:(0:Int) ≤ (ix:Int):=by omega
 have i2:decide ((ix:Int) < 0) = false:=decide_eq_false (by omega)
 clear hbut hyk hfy hym hix hA hy
 clear H f hfx htb sk so slc hlen hno2 hl2 hef hidx ha ho hm hn hN hll hW0 hB0 hnE hnD n4 eE
 have HENT:=Lib.hid entC
 clear entC
 obtain ⟨T,ev0,hev0⟩:=hev0
 have HEV:=Lib.hid hev0
 clear hev0
 obtain ⟨tb,key,oth,ln,pr,bk,args,idle,hard,ck,tl⟩:=x
 show Calls Tryz.prog 10 #[.pointer (some ⟨S,0,none⟩),.agg #[.int .i64 tb,.string key,.string oth,.int .i64 ln,.int .i64 pr,.int .i64 bk,.slice A n c,.int .i64 idle,.int .i64 hard,.int .u64 ck,.bool tl],.int .i64 now] w _
 have zm:Calls Tryz.prog 9 #[.pointer (some ⟨S,0,none⟩),.agg #[.int .i64 tb,.string key,.string oth,.int .i64 ln,.int .i64 pr,.int .i64 bk,.slice A n c,.int .i64 idle,.int .i64 hard,.int .u64 ck,.bool tl]] W0 fun e w' => e = .returned (.int .i64 0) ∧ Wider W0 w':=zm
 have zs:∀ W,Wider W0 W → Calls Tryz.prog 31 #[.pointer (some ⟨S,0,none⟩),.agg #[.int .i64 tb,.string key,.string oth,.int .i64 ln,.int .i64 pr,.int .i64 bk,.slice A n c,.int .i64 idle,.int .i64 hard,.int .u64 ck,.bool tl]] W fun e w' => e = .returned (.int .i64 ((ix:Int))) ∧ Wider W w':=zs
 have HZO:=Lib.hid zo
 have e0:∀ W,Wider W0 W → Ent11 W B0 tb key oth ln pr bk A n c idle hard ck tl:=fun W g => by
  have K:=H0.quiet g
  have e:=fun i v hv => HENT.out _ W K (List.mem_append_right _ (List.mem_append_right _ (.head _))) i v hv
  exact ⟨e 0 _ rfl,e 1 _ rfl,e 2 _ rfl,e 3 _ rfl,e 4 _ rfl,e 5 _ rfl,e 6 _ rfl,e 7 _ rfl,e 8 _ rfl,e 9 _ rfl,e 10 _ rfl⟩
 have HE0:=Lib.hid e0
 obtain ⟨x0,x1,x2,x3,x4,x5,x6,x7,x8,x9,x10⟩:=e0 W0 (Wider.refl _)
 clear zo e0
 have HW1:=HW0.out.1
 have HB1:=HW0.out.2
 go_enter Tryz.func10,Tryz.ntmps10
 go_upto_region 1 with (fail)
 try rw [HW1]
 try rw [HB1]
 clear HW1 HB1
 go_upto_region 5 with (first
  | (go_at_call 9; ((with_reducible refine zm.mono ?_); rintro e w1 ⟨rfl,g1⟩; obtain ⟨y0,y1,y2,y3,y4,y5,y6,y7,y8,y9,y10⟩:=HE0.out w1 g1; clear zm))
  | (go_at_call 31; ((with_reducible refine (zs _ g1).mono ?_); rintro e w2 ⟨rfl,g2⟩; clear zs)))
 have H2:=(H0.quiet g1).quiet g2
 go_quiet (fail)
 have K2:=H2.quiet ((Wider.refl _).drewN nq)
 clear H2
 go_upto_region 9 with (first
  | (go_at_call 32; ((with_reducible refine (zr _ K2).mono ?_); rintro e W3 ⟨rfl,hv3,Es3,K,he3⟩; clear zr K2)))
 have HE3:=Lib.hid he3
 obtain ⟨A1,cp,ehv⟩:=ownsRow_shape K.drop.second
 have Kc:Own V W3 (blkT S #[.int .i64 d.t.id,.int .u8 d.t.kind,d.kv,.int .i64 d.t.cap,.int .i64 d.t.miss,.int .i64 (d.ws.sum:Int),d.ev,.slice A1 nE cp,.int .i64 (d.last:Int)] 72 :: rowK d :: rowT 77 14 (.slice A1 nE cp) nE (cellsHs (A0 ++ C0)) :: (Es3 ++ (Xs ++ (blkT B0 #[.int .i64 tb,.string key,.string oth,.int .i64 ln,.int .i64 pr,.int .i64 bk,.slice A n c,.int .i64 idle,.int .i64 hard,.int .u64 ck,.bool tl] 26 :: R)))):=by
  have q:Own V W3 (blkT S #[.int .i64 d.t.id,.int .u8 d.t.kind,d.kv,.int .i64 d.t.cap,.int .i64 d.t.miss,.int .i64 (d.ws.sum:Int),d.ev,hv3,.int .i64 (d.last:Int)] 72 :: rowK d :: rowT 77 14 hv3 (A0 ++ C0).length (cellsHs (A0 ++ C0)) :: (Es3 ++ (Xs ++ (blkT B0 #[.int .i64 tb,.string key,.string oth,.int .i64 ln,.int .i64 pr,.int .i64 bk,.slice A n c,.int .i64 idle,.int .i64 hard,.int .u64 ck,.bool tl] 26 :: R)))):=K
  have ehv2:hv3 = .slice A1 (A0 ++ C0).length cp:=ehv
  rw [ehv2,HNE.out.1] at q
  exact q
 clear he3 ehv K
 have c8:=blk_cell Kc.head 8 (v:=.int .i64 (d.last:Int)) rfl
 have f8:=blk_free Kc.head 8
 have Kd:=Kc.store 8 (.int .i64 la)
 go_upto_region 11 with (first
  | (go_at_call 33; ((with_reducible refine (zt _).mono ?_); rintro e w5 ⟨rfl,g5⟩; have K5:=Kd.quiet g5; clear zt)))
 have K5c:Own V w5 (blkT S #[.int .i64 d.t.id,.int .u8 d.t.kind,d.kv,.int .i64 d.t.cap,.int .i64 d.t.miss,.int .i64 (d.ws.sum:Int),d.ev,.slice A1 nE cp,.int .i64 la] 72 :: rowK d :: rowT 77 14 (.slice A1 nE cp) nE (cellsHs (A0 ++ C0)) :: (Es3 ++ (Xs ++ (blkT B0 #[.int .i64 tb,.string key,.string oth,.int .i64 ln,.int .i64 pr,.int .i64 bk,.slice A n c,.int .i64 idle,.int .i64 hard,.int .u64 ck,.bool tl] 26 :: R)))):=K5
 have HH5:=Lib.hid (K5c.rot3.quiet (Wider.refl _).drew)
 obtain ⟨i0,hi,hz0,hz1,hz2⟩:=info_parts zinfoH
 have S1:Hid (nE + 1 ≤ maxLen):=Lib.hid (by have:=HHH.out.2.2.2.2.2.2.1; rw [HNE.out.1] at this; unfold maxLen; omega)
 have S2:Hid ((nE + 1) * 144 ≤ 140737488355328):=Lib.hid (by have:=HHH.out.2.2.2.2.2.2.1; rw [HNE.out.1] at this; omega)
 have OWN:Hid (∀ (R':List Thing) (W:World),Own V W R' → Own V W R → Calls Tryz.prog 34 #[.agg #[.int .i64 tb,.string key,.string oth,.int .i64 ln,.int .i64 pr,.int .i64 bk,.slice A n c,.int .i64 idle,.int .i64 hard,.int .u64 ck,.bool tl]] W fun e w' => ∃ B c',e = .returned (.agg #[.int .i64 tb,.string key,.string oth,.int .i64 ln,.int .i64 pr,.int .i64 bk,.slice B n c',.int .i64 idle,.int .i64 hard,.int .u64 ck,.bool tl]) ∧ args.length = n ∧ Own V w' (rowT 24 1 (.slice B n c') args.length (u64s args) :: R')):=Lib.hid HZO.out
 obtain ⟨tt,htt⟩ : ∃ tt,clampT now = tt:=⟨_,rfl⟩
 have HTT:=Lib.hid htt
 try rw [htt]
 obtain ⟨CE,hCE⟩ : ∃ CE,cellsHs (A0 ++ C0) = CE:=⟨_,rfl⟩
 have HCE:=Lib.hid hCE
 rw [hCE] at HH5
 clear K5 K5c Kd Kc htt hCE HZO c8 f8
 refine' leaf_key6 (C:=fun (W:World) (X:Option Addr) (c9:Nat) (BI:Option Addr) (cI b1:Nat) => Own V W (blkT S #[.int .i64 d.t.id,.int .u8 d.t.kind,d.kv,.int .i64 d.t.cap,.int .i64 d.t.miss,.int .i64 (d.ws.sum:Int),d.ev,.slice X (nE + 1) c9,.int .i64 la] 72 :: rowT 77 14 (.slice X (nE + 1) c9) (nE + 1) (CE ++ [.int .i64 tb,.string key,.string oth,.int .i64 ln,.int .i64 pr,.int .i64 bk,.slice BI n cI,.int .i64 idle,.int .i64 hard,.int .u64 ck,.bool tl,.int .i64 la,.int .i64 tt,.int .i64 tt]) :: rowT 24 1 (.slice BI n cI) args.length (u64s args) :: rowK d :: (Es3 ++ (Xs ++ (blkT B0 #[.int .i64 tb,.string key,.string oth,.int .i64 ln,.int .i64 pr,.int .i64 bk,.slice A n c,.int .i64 idle,.int .i64 hard,.int .u64 ck,.bool tl] 26 :: R))))) ?key ?lea
 case lea =>
  intro KEY
  have H5:=HH5.out
  have zo:=fun (R':List Thing) (W:World) (HW:Own V W (blkT S #[.int .i64 d.t.id,.int .u8 d.t.kind,d.kv,.int .i64 d.t.cap,.int .i64 d.t.miss,.int .i64 (d.ws.sum:Int),d.ev,.slice A1 nE cp,.int .i64 la] 72 :: rowK d :: R')) => HW
  have c7:=blk_cell H5.second 7 (v:=.slice A1 nE cp) rfl
  have c8:=blk_cell H5.second 8 (v:=.int .i64 la) rfl
  have rR:Own V _ R:=(own_rest (own_rest (H5.drop.drop.drop))).drop
  have e:=fun i v hv => HENT.out _ _ H5 (.tail _ (.tail _ (.tail _ (List.mem_append_right _ (List.mem_append_right _ (.head _)))))) i v hv
  have b0:=e 0 _ rfl
  have b1:=e 1 _ rfl
  have b2:=e 2 _ rfl
  have b3:=e 3 _ rfl
  have b4:=e 4 _ rfl
  have b5:=e 5 _ rfl
  have b6:=e 6 _ rfl
  have b7:=e 7 _ rfl
  have b8:=e 8 _ rfl
  have b9:=e 9 _ rfl
  have b10:=e 10 _ rfl
  have zo:=OWN.out _ _ H5 rR
  clear e rR
  go_region_law (first
   | (go_simp; go_at_call 34; ((with_reducible refine zo.mono ?_); rintro e w6 ⟨BI,cI,rfl,_,H6⟩; have d7:=blk_cell H6.drop.second 7 (v:=.slice A1 nE cp) rfl; have d8:=blk_cell H6.drop.second 8 (v:=.int .i64 la) rfl; have H7:=H6.swap.quiet ((Wider.refl w6).alloc (.cells #[.int .i64 tb,.string key,.string oth,.int .i64 ln,.int .i64 pr,.int .i64 bk,.slice BI n cI,.int .i64 idle,.int .i64 hard,.int .u64 ck,.bool tl,.int .i64 la,.int .i64 tt,.int .i64 tt] 77)); have e7:=wkeep ((Wider.refl w6).alloc (.cells #[.int .i64 tb,.string key,.string oth,.int .i64 ln,.int .i64 pr,.int .i64 bk,.slice BI n cI,.int .i64 idle,.int .i64 hard,.int .u64 ck,.bool tl,.int .i64 la,.int .i64 tt,.int .i64 tt] 77)) d7; have cl:=held_lies w6 #[.int .i64 tb,.string key,.string oth,.int .i64 ln,.int .i64 pr,.int .i64 bk,.slice BI n cI,.int .i64 idle,.int .i64 hard,.int .u64 ck,.bool tl,.int .i64 la,.int .i64 tt,.int .i64 tt]; have ONE:=newH_one tb key oth ln pr bk BI n cI idle hard ck tl la tt; clear zo H6 H5 c7 c8 b0 b1 b2 b3 b4 b5 b6 b7 b8 b9 b10))
   | (refine step_append_thing rfl (.tmp 51) (.tmp 61) 70 rfl 77 i0 (.agg #[.int .i64 0,.string ⟨#[]⟩,.string ⟨#[]⟩,.int .i64 0,.int .i64 0,.int .i64 0,.slice none 0 0,.int .i64 0,.int .i64 0,.int .u64 0,.bool false,.int .i64 0,.int .i64 0,.int .i64 0]) 14 144 Tryz.underlying70 hi hz0 hz1 hz2 rfl (by decide) (.slice A1 nE cp) nE CE (by simp [Act.eval]) H7 (some ⟨w6.heap.size,0,none⟩) 1 1 [.int .i64 tb,.string key,.string oth,.int .i64 ln,.int .i64 pr,.int .i64 bk,.slice BI n cI,.int .i64 idle,.int .i64 hard,.int .u64 ck,.bool tl,.int .i64 la,.int .i64 tt,.int .i64 tt] (by simp [Act.eval]) rfl (fun e => by cases e) cl ONE S1.out S2.out rfl rfl ?_; intro X c9 w8 H8; have H9:=H8.rot3; have f7:=blk_free H9.head 7; have k7:=blk_cell H9.head 7 (v:=.slice A1 nE cp) rfl; have H10:=H9.store 7 (.slice X (nE + 1) c9); clear H8 H9 H7 cl ONE))
  all_goals
   obtain ⟨W9,hW9⟩ : ∃ W,w8.setCell ⟨S,7,none⟩ (.slice X (nE + 1) c9) = W:=⟨_,rfl⟩
   rw [hW9] at H10
   try rw [hW9]
   obtain ⟨bb,hbb⟩ : ∃ b,w6.heap.size = b:=⟨_,rfl⟩
   try rw [hbb]
   exact KEY.out _ _ _ _ _ bb H10
 case key =>
  intro W X c9 BI cI b1 K
  have he4:EngA d.t.kind d.ws d.ev Es3 (argA ⟨tb,key,oth,ln,pr,bk,args,idle,hard,ck,tl⟩ (.slice BI n cI) :: Xs) ((A0 ++ C0).map HeldP.kp) s.n:=HE3.out.more (fun t h => .tail _ h)
  have hput:=engA_put he4 HHH.out.2.2.2.2.2.1 HHH.out.2.2.2.1 HHH.out.1 HHH.out.2.1 HHH.out.2.2.1 (d.last + 1) (kk:=la) HLA.out
  have c6:=blk_cell K.head 6 (v:=d.ev) rfl
  have c8:=blk_cell K.head 8 (v:=.int .i64 la) rfl
  have e:=fun i v hv => HENT.out _ _ K (.tail _ (.tail _ (.tail _ (.tail _ (List.mem_append_right _ (List.mem_append_right _ (.head _))))))) i v hv
  have b0:=e 0 _ rfl
  have b1:=e 1 _ rfl
  have b2:=e 2 _ rfl
  have b3:=e 3 _ rfl
  have b4:=e 4 _ rfl
  have b5:=e 5 _ rfl
  have b6:=e 6 _ rfl
  have b7:=e 7 _ rfl
  have b8:=e 8 _ rfl
  have b9:=e 9 _ rfl
  have b10:=e 10 _ rfl
  have K2:=(K.perm (perm_mid [_,_,_,_] Es3 _)).quiet (Wider.refl W).drew
  clear e he4 K HH5
  rcases hput with ⟨p,hev,hput⟩ | ⟨Z,hev,hput⟩ | ⟨Z,hev,hput⟩ | ⟨Z,D,nw,cw,hev,hput⟩
  · have zp:∀ (R2:List Thing) (W:World),Own V W (Es3 ++ R2) → Calls Tryz.prog 81 #[.agg #[.pointer (some p)],.agg #[.int .i64 tb,.string key,.string oth,.int .i64 ln,.int .i64 pr,.int .i64 bk,.slice A n c,.int .i64 idle,.int .i64 hard,.int .u64 ck,.bool tl],.int .i64 la] W fun e w2 => e = .returned (.tuple #[]) ∧ ∃ Es2,Own V w2 (Es2 ++ R2) ∧ EngA d.t.kind d.ws d.ev Es2 (argA ⟨tb,key,oth,ln,pr,bk,args,idle,hard,ck,tl⟩ (.slice BI n cI) :: Xs) ((A0 ++ C0).map HeldP.kp ++ [(⟨tb,key,oth,ln,pr,bk,args,idle,hard,ck,tl⟩,d.last + 1)]) (s.n + 1):=fun R2 W HW => hput HW A n c
    rw [hev] at c6
    clear hput hev
    have hmet : ∀ w, (method 357 102 (.agg #[.pointer (some p)]) "turnout/table.put").run Tryz.prog w = .ok (81, .agg #[.pointer (some p)]) w := fun w => by kernel_rfl
    go_upto_region 12 with (fail)
    go_still_tail 11,(by kernel_rfl)
    change wpList _ _ _ _ _ (World.drew _)
    go_wp2_with (first
     | (go_at_call 81; ((with_reducible refine (zp _ _ K2).mono ?_); rintro e w9 ⟨rfl,Es4,K4,h4⟩; have HK4:=Lib.hid (And.intro K4 h4); clear zp K2 K4 h4)))
    go_ret
    refine ⟨rfl,BI,cI,.slice X (nE + 1) c9,Es4,HHH.out.2.2.2.2.1,sto_put HK4.out.1 HLA.out HCE.out HNE.out.1 HTT.out,?_⟩
    have e:=HK4.out.2
    rw [List.map_append]
    exact e
  · have zp:∀ (R2:List Thing) (W:World),Own V W (Es3 ++ R2) → Calls Tryz.prog 103 #[.agg #[.pointer (some ⟨Z,0,none⟩)],.agg #[.int .i64 tb,.string key,.string oth,.int .i64 ln,.int .i64 pr,.int .i64 bk,.slice A n c,.int .i64 idle,.int .i64 hard,.int .u64 ck,.bool tl],.int .i64 la] W fun e w2 => e = .returned (.tuple #[]) ∧ ∃ Es2,Own V w2 (Es2 ++ R2) ∧ EngA d.t.kind d.ws d.ev Es2 (argA ⟨tb,key,oth,ln,pr,bk,args,idle,hard,ck,tl⟩ (.slice BI n cI) :: Xs) ((A0 ++ C0).map HeldP.kp ++ [(⟨tb,key,oth,ln,pr,bk,args,idle,hard,ck,tl⟩,d.last + 1)]) (s.n + 1):=fun R2 W HW => hput HW A n c
    rw [hev] at c6
    clear hput hev
    have hmet : ∀ w, (method 357 106 (.agg #[.pointer (some ⟨Z, 0, none⟩)]) "turnout/table.put").run Tryz.prog w = .ok (103, .agg #[.pointer (some ⟨Z, 0, none⟩)]) w := fun w => by kernel_rfl
    go_upto_region 12 with (fail)
    go_still_tail 11,(by kernel_rfl)
    change wpList _ _ _ _ _ (World.drew _)
    go_wp2_with (first
     | (go_at_call 103; ((with_reducible refine (zp _ _ K2).mono ?_); rintro e w9 ⟨rfl,Es4,K4,h4⟩; have HK4:=Lib.hid (And.intro K4 h4); clear zp K2 K4 h4)))
    go_ret
    refine ⟨rfl,BI,cI,.slice X (nE + 1) c9,Es4,HHH.out.2.2.2.2.1,sto_put HK4.out.1 HLA.out HCE.out HNE.out.1 HTT.out,?_⟩
    have e:=HK4.out.2
    rw [List.map_append]
    exact e
  · have zp:∀ (R2:List Thing) (W:World),Own V W (Es3 ++ R2) → Calls Tryz.prog 130 #[.agg #[.pointer (some ⟨Z,0,none⟩)],.agg #[.int .i64 tb,.string key,.string oth,.int .i64 ln,.int .i64 pr,.int .i64 bk,.slice A n c,.int .i64 idle,.int .i64 hard,.int .u64 ck,.bool tl],.int .i64 la] W fun e w2 => e = .returned (.tuple #[]) ∧ ∃ Es2,Own V w2 (Es2 ++ R2) ∧ EngA d.t.kind d.ws d.ev Es2 (argA ⟨tb,key,oth,ln,pr,bk,args,idle,hard,ck,tl⟩ (.slice BI n cI) :: Xs) ((A0 ++ C0).map HeldP.kp ++ [(⟨tb,key,oth,ln,pr,bk,args,idle,hard,ck,tl⟩,d.last + 1)]) (s.n + 1):=fun R2 W HW => hput HW A n c
    rw [hev] at c6
    clear hput hev
    have hmet : ∀ w, (method 357 110 (.agg #[.pointer (some ⟨Z, 0, none⟩)]) "turnout/table.put").run Tryz.prog w = .ok (130, .agg #[.pointer (some ⟨Z, 0, none⟩)]) w := fun w => by kernel_rfl
    go_upto_region 12 with (fail)
    go_still_tail 11,(by kernel_rfl)
    change wpList _ _ _ _ _ (World.drew _)
    go_wp2_with (first
     | (go_at_call 130; ((with_reducible refine (zp _ _ K2).mono ?_); rintro e w9 ⟨rfl,Es4,K4,h4⟩; have HK4:=Lib.hid (And.intro K4 h4); clear zp K2 K4 h4)))
    go_ret
    refine ⟨rfl,BI,cI,.slice X (nE + 1) c9,Es4,HHH.out.2.2.2.2.1,sto_put HK4.out.1 HLA.out HCE.out HNE.out.1 HTT.out,?_⟩
    have e:=HK4.out.2
    rw [List.map_append]
    exact e
  · have zp:∀ (R2:List Thing) (W:World),Own V W (Es3 ++ R2) → Calls Tryz.prog 184 #[.agg #[.pointer (some ⟨Z,0,none⟩),.slice D nw cw],.agg #[.int .i64 tb,.string key,.string oth,.int .i64 ln,.int .i64 pr,.int .i64 bk,.slice A n c,.int .i64 idle,.int .i64 hard,.int .u64 ck,.bool tl],.int .i64 la] W fun e w2 => e = .returned (.tuple #[]) ∧ ∃ Es2,Own V w2 (Es2 ++ R2) ∧ EngA d.t.kind d.ws d.ev Es2 (argA ⟨tb,key,oth,ln,pr,bk,args,idle,hard,ck,tl⟩ (.slice BI n cI) :: Xs) ((A0 ++ C0).map HeldP.kp ++ [(⟨tb,key,oth,ln,pr,bk,args,idle,hard,ck,tl⟩,d.last + 1)]) (s.n + 1):=fun R2 W HW => hput HW A n c
    rw [hev] at c6
    clear hput hev
    have hmet : ∀ w, (method 357 115 (.agg #[.pointer (some ⟨Z, 0, none⟩), .slice D nw cw]) "turnout/table.put").run Tryz.prog w = .ok (184, .agg #[.pointer (some ⟨Z, 0, none⟩), .slice D nw cw]) w := fun w => by kernel_rfl
    go_upto_region 12 with (fail)
    go_still_tail 11,(by kernel_rfl)
    change wpList _ _ _ _ _ (World.drew _)
    go_wp2_with (first
     | (go_at_call 184; ((with_reducible refine (zp _ _ K2).mono ?_); rintro e w9 ⟨rfl,Es4,K4,h4⟩; have HK4:=Lib.hid (And.intro K4 h4); clear zp K2 K4 h4)))
    go_ret
    refine ⟨rfl,BI,cI,.slice X (nE + 1) c9,Es4,HHH.out.2.2.2.2.1,sto_put HK4.out.1 HLA.out HCE.out HNE.out.1 HTT.out,?_⟩
    have e:=HK4.out.2
    rw [List.map_append]
    exact e
def WNums (w:World) (A:Option Addr) (ws:List Nat):Prop:=(A = none → ws = []) ∧ ∀ a,A = some a → ∀ (j m:Nat),ws[j]? = some m → w.cell? (a.add j) = some (.int .i64 (m:Int))
theorem WNums.on {W w:World} {A:Option Addr} {ws:List Nat} (h:WNums W A ws) (g:Wider W w):WNums w A ws:=⟨h.1,fun a e j m hj => wkeep g (h.2 a e j m hj)⟩
theorem WNums.at_ {w:World} {A:Option Addr} {ws:List Nat} (h:WNums w A ws) {i m:Nat} (hm:ws[i]? = some m):∃ a,A = some a ∧ w.cell? (a.add i) = some (.int .i64 (m:Int)):=by
 cases A with
 | none => rw [h.1 rfl] at hm; simp at hm
 | some a => exact ⟨a,rfl,h.2 a rfl i m hm⟩
theorem zsum_c {w:World} {D:Option Addr} {n c:Nat} {ws:List Nat} (hW:WNums w D ws) (hn:ws.length = n) (hl:n < 1000) (h16:∀ m ∈ ws,m ≤ 16) {r:Int} (hr:(ws.sum:Int) = r) :
 Calls Tryz.prog 36 #[.slice D n c] w fun e w' => e = .returned (.int .i64 r) ∧ Wider w w':=by
 subst hr
 have HW:=Lib.hid hW
 have HN:=Lib.hid hn
 have H16:=Lib.hid h16
 clear hW hn h16
 go_enter Tryz.func36,Tryz.ntmps36
 go_wp2
 go_loopw [3,8] (fun a b wr => Wider w wr ∧ ∃ (i p:Nat),i ≤ n ∧ a = .int .i64 (p:Int) ∧ b = .int .i64 (i:Int) ∧ Hid (p = (ws.take i).sum) ∧ p ≤ 16 * i) (fun _ b _ => n - (intOf b).toNat)
 case atStart => exact ⟨Wider.refl w,0,0,Nat.zero_le _,rfl,rfl,Lib.hid rfl,Nat.zero_le _⟩
 case round =>
  obtain ⟨g,i,p,hi0,rfl,rfl,HP,hp16⟩:=hrel
  have q0:(0:Int) ≤ (i:Int):=by omega
  by_cases cc:i < n
  · have q1:(i:Int) < (n:Int):=by omega
    obtain ⟨m,hm⟩ : ∃ m,ws[i]? = some m:=⟨ws[i]'(by rw [HN.out]; exact cc),List.getElem?_eq_getElem _⟩
    obtain ⟨a,rfl,hc⟩:=HW.out.at_ hm
    have hc:=wkeep g hc
    have hm16:=H16.out m (List.mem_of_getElem? hm)
    have HS:=Lib.hid (sum_take_next hm)
    obtain ⟨t,ht⟩ : ∃ t,p + m = t:=⟨_,rfl⟩
    have i1:IntKind.i64.wrap ((p:Int) + (m:Int)) = (t:Int):=by simp [IntKind.wrap,IntKind.bits,IntKind.signed]; omega
    have HT:=Lib.hid ht
    clear hm ht
    go_wp2
    go_roundw
    case rel => exact ⟨g,i + 1,t,by omega,rfl,by go_num,Lib.hid (by rw [HS.out,← HP.out,HT.out]),by have:=HT.out; omega⟩
    case measure => simp [intOf]; omega
  · obtain rfl:i = n:=by omega
    have q1:¬ (i:Int) < (i:Int):=by omega
    have e:(p:Int) = (ws.sum:Int):=by
     have:=HP.out
     rw [List.take_of_length_le (by rw [HN.out]; exact Nat.le_refl _)] at this
     rw [this]
    have HE:=Lib.hid e
    clear e
    go_wp2
    go_ret
    exact ⟨congrArg (fun q => Ending.returned (.int .i64 q)) HE.out,g⟩
def MayTab (t:TabV) (zs:List Int):Prop:=(∀ z ∈ zs,1 ≤ z ∧ z ≤ 16) ∧ (1 ≤ t.id ∧ t.id ≤ 65534) ∧ (1 ≤ t.kind ∧ t.kind ≤ 4) ∧ (1 ≤ (t.keys.length:Int) ∧ (t.keys.length:Int) ≤ 4) ∧ t.keys.length = zs.length ∧ (zs.map Int.toNat).sum ≤ 32 ∧ (1 ≤ t.cap ∧ t.cap ≤ 256) ∧ 0 ≤ t.miss ∧ t.miss ≤ 65534
instance (t:TabV) (zs:List Int):Decidable (MayTab t zs):=inferInstanceAs (Decidable (_ ∧ (_ ∧ _) ∧ (_ ∧ _) ∧ (_ ∧ _) ∧ _ ∧ _ ∧ (_ ∧ _) ∧ _ ∧ _))
theorem nums_widths {w:World} {D:Option Addr} {n c:Nat} {zs:List Int} (h:NumsAt w (.slice D n c) zs) (h1:∀ z ∈ zs,1 ≤ z ∧ z ≤ 16):WNums w D (zs.map Int.toNat) ∧ zs.length = n:=by
 obtain ⟨A,n',c',e,hn,h0,hc⟩:=h
 injection e with e1 e2 e3
 subst e1 e2
 refine ⟨⟨fun e => by rw [h0 e]; rfl,fun a ea j m hj => ?_⟩,hn⟩
 rw [List.getElem?_map] at hj
 cases q:zs[j]? with
 | none => rw [q] at hj; cases hj
 | some z =>
   rw [q] at hj
   obtain rfl:z.toNat = m:=by simpa using hj
   have z1:=(h1 z (List.mem_of_getElem? q)).1
   rw [Int.toNat_of_nonneg (by omega)]
   exact hc a ea j z q
set_option maxRecDepth 20000 in
theorem znew_o {V w:World} {R:List Thing} (H:Own V w R) {A:Option Addr} {n c:Nat} {ws:List Nat} (hz:WNums w A ws) (hn:ws.length = n) (h1:1 ≤ n) (h4:n ≤ 4) (h16:∀ m ∈ ws,1 ≤ m ∧ m ≤ 16) :
 Calls Tryz.prog 55 #[.slice A n c] w fun e w' => ∃ S,e = .returned (.tuple #[.pointer (some ⟨S,0,none⟩),.int .i64 0]) ∧ RangIs V w' R S ws [] 0:=by
 have HZ:=Lib.hid hz
 have HN:=Lib.hid hn
 have H16:=Lib.hid h16
 have HS:=Lib.hid (sum_le ws h16)
 have i1:¬ (n:Int) < 1:=by omega
 have i2:¬ (4:Int) < (n:Int):=by omega
 have zc:=vcloneI_c (n:=n) (c:=c) H (A:=A) (xs:=intsW ws) (by rw [intsW_length]; exact hn) (by omega) (fun e => by
  have:=hz.1 e
  rw [this] at hn
  exact hn.symm) (fun a e j u hj => by
  obtain ⟨m,hm,rfl⟩ : ∃ m,ws[j]? = some m ∧ Value.int .i64 (m:Int) = u:=by simpa [intsW] using hj
  exact hz.2 a e j m hm) (intsW_one ws)
 clear hz hn h16 H
 go_enter Tryz.func55,Tryz.ntmps55
 go_wp2
 go_loopw [4,17] (fun a b wr => ∃ (i p:Nat),wr = w ∧ i ≤ n ∧ a = .int .i64 (p:Int) ∧ b = .int .i64 (i:Int) ∧ Hid (p = (ws.take i).sum)) (fun _ b _ => n - (intOf b).toNat)
 case atStart => exact ⟨0,0,rfl,Nat.zero_le _,rfl,rfl,Lib.hid rfl⟩
 case round =>
  obtain ⟨i,p,rfl,hi0,rfl,rfl,HI⟩:=hrel
  have q0:(0:Int) ≤ (i:Int):=by omega
  by_cases c:i < n
  · have q1:(i:Int) < (n:Int):=by omega
    obtain ⟨m,hm⟩ : ∃ m,ws[i]? = some m:=⟨ws[i]'(by rw [HN.out]; exact c),List.getElem?_eq_getElem _⟩
    obtain ⟨a,rfl,hc⟩:=HZ.out.at_ hm
    obtain ⟨m1,m2⟩:=H16.out m (List.mem_of_getElem? hm)
    have a1:¬ (m:Int) < 1:=by omega
    have a2:¬ (16:Int) < (m:Int):=by omega
    have hs:=sum_take_next hm
    have hp:=HI.out
    have hs2:=sum_take_le ws (i + 1)
    have hs3:=HS.out
    have hs4:=HN.out
    have a3:IntKind.i64.wrap ((p:Int) + (m:Int)) = (p:Int) + (m:Int):=by simp [IntKind.wrap,IntKind.bits,IntKind.signed]; omega
    have HH:=Lib.hid (show p + m = (ws.take (i + 1)).sum by omega)
    clear hm hs hp hs2 hs3 hs4 zc
    go_wp2
    go_roundw
    case measure => simp [intOf]; omega
    case rel => exact ⟨i + 1,p + m,trivial,by omega,by go_num,by go_num,Lib.hid HH.out⟩
  · have e:i = n:=by omega
    subst e
    have q1:¬ ((i:Int) < (i:Int)):=by omega
    have HP:Hid (p = ws.sum):=Lib.hid (by have:=HI.out; rw [List.take_of_length_le (by rw [HN.out]; exact Nat.le_refl _)] at this; exact this)
    go_wp2_with (first
     | (go_at_call 51; ((with_reducible refine zc.mono ?_); rintro e w1 ⟨B,c',rfl,H1⟩; have H2:=H1.blk #[.slice B i c',.int .i64 (p:Int),.slice none 0 0] 137; clear zc)))
    simp [bodyPost,results,Tryz.results55,go_sem]
    refine ⟨.slice B i c',.slice none 0 0,?_,⟨by rw [HN.out]; exact h4,H16.out,fun x hx => (by cases hx),List.Pairwise.nil,Nat.le_refl _⟩⟩
    have H3:Own V _ (rowR (.slice none 0 0) [] :: _):=H2.row (Wider.refl _) (World.ownsRow_nil _ _ 247 4)
    have H4:=H3.rot3b
    have e:=HP.out
    subst e
    delta rowW
    rw [HN.out]
    exact H4
end Go.Proofs.YtbnpelciceblfaaGreat
