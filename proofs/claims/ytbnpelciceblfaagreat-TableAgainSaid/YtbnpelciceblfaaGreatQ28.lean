/- ZCodeG ZCodeH ZCodeI -/
import Derived.Test.YtbnpelciceblfaaGreatQ27
namespace Go.Proofs.YtbnpelciceblfaaGreat
set_option linter.unusedVariables false
open Go.ChangeShapes Go.WideShapes Go.ChangeAt Go.RowKit Go.Joins
set_option maxHeartbeats 64000000
set_option maxRecDepth 20000 in
theorem zputM_a {V w:World} {R Xs:List Thing} {S:Nat} {d:StoD} {s:StM} (H:Own V w (d.things S ++ (Xs ++ R))) (f:StF d Xs s) (x:EntV) {A:Option Addr} {n c:Nat} (hn:x.args.length = n) (ho:x.Ok) (hm:¬ mayT s x = true) (now:Int) :
 Calls Tryz.prog 10 #[pS S,entV x (.slice A n c),.int .i64 now] w fun e w' => e = .returned (.int .i64 3) ∧ Wider w w':=by
 have g0:=(Wider.refl w).alloc (.cells #[.int .i64 x.tb,.string x.key,.string x.oth,.int .i64 x.ln,.int .i64 x.pr,.int .i64 x.bk,.slice A n c,.int .i64 x.idle,.int .i64 x.hard,.int .u64 x.ck,.bool x.tl] 26)
 have zm:=zmay_a (H.quiet g0) f x (A:=A) (n:=n) (c:=c) hn ho (r:=3) (by rw [if_neg hm])
 clear H f hn ho hm
 obtain ⟨tb,key,oth,ln,pr,bk,args,idle,hard,ck,tl⟩:=x
 show Calls Tryz.prog 10 #[.pointer (some ⟨S,0,none⟩),.agg #[.int .i64 tb,.string key,.string oth,.int .i64 ln,.int .i64 pr,.int .i64 bk,.slice A n c,.int .i64 idle,.int .i64 hard,.int .u64 ck,.bool tl],.int .i64 now] w _
 have zm:Calls Tryz.prog 9 #[.pointer (some ⟨S,0,none⟩),.agg #[.int .i64 tb,.string key,.string oth,.int .i64 ln,.int .i64 pr,.int .i64 bk,.slice A n c,.int .i64 idle,.int .i64 hard,.int .u64 ck,.bool tl]] (w.alloc (.cells #[.int .i64 tb,.string key,.string oth,.int .i64 ln,.int .i64 pr,.int .i64 bk,.slice A n c,.int .i64 idle,.int .i64 hard,.int .u64 ck,.bool tl] 26)) fun e w' => e = .returned (.int .i64 3) ∧ Wider _ w':=zm
 have g0:Wider w (w.alloc (.cells #[.int .i64 tb,.string key,.string oth,.int .i64 ln,.int .i64 pr,.int .i64 bk,.slice A n c,.int .i64 idle,.int .i64 hard,.int .u64 ck,.bool tl] 26)):=g0
 go_enter Tryz.func10,Tryz.ntmps10
 go_wp2_with (first
  | (go_at_call 9; ((with_reducible refine zm.mono ?_); rintro e w1 ⟨rfl,g⟩; replace g0:=g0.trans g; clear zm g)))
 go_ret
 exact ⟨rfl,g0⟩
set_option maxRecDepth 20000 in
theorem zputF_a {V w:World} {R Xs:List Thing} {S:Nat} {d:StoD} {s:StM} (H:Own V w (d.things S ++ (Xs ++ R))) (f:StF d Xs s) (x:EntV) {A:Option Addr} {n c:Nat} (hn:x.args.length = n) (ho:x.Ok) (hm:mayT s x = true) (hno:∀ h ∈ d.E,¬ OneE h.x x) (hfull:s.cap ≤ d.E.length) (now:Int) :
 Calls Tryz.prog 10 #[pS S,entV x (.slice A n c),.int .i64 now] w fun e w' => e = .returned (.int .i64 12) ∧ Wider w w':=by
 have slc:=f.sliced H (fun t ht => List.mem_append_right _ (List.mem_append_left _ ht))
 have hlen:=f.len
 obtain ⟨A9,cp9,ehv9,_⟩:=sto_row H slc
 have H0:=H.quiet ((Wider.refl w).alloc (.cells #[.int .i64 x.tb,.string x.key,.string x.oth,.int .i64 x.ln,.int .i64 x.pr,.int .i64 x.bk,.slice A n c,.int .i64 x.idle,.int .i64 x.hard,.int .u64 x.ck,.bool x.tl] 26))
 have g0:=(Wider.refl w).alloc (.cells #[.int .i64 x.tb,.string x.key,.string x.oth,.int .i64 x.ln,.int .i64 x.pr,.int .i64 x.bk,.slice A n c,.int .i64 x.idle,.int .i64 x.hard,.int .u64 x.ck,.bool x.tl] 26)
 have E0:=ent11_box w x.tb x.key x.oth x.ln x.pr x.bk A n c x.idle x.hard x.ck x.tl
 obtain ⟨B0,hB0⟩ : ∃ B,w.heap.size = B:=⟨_,rfl⟩
 obtain ⟨W0,hW0⟩ : ∃ W,w.alloc (.cells #[.int .i64 x.tb,.string x.key,.string x.oth,.int .i64 x.ln,.int .i64 x.pr,.int .i64 x.bk,.slice A n c,.int .i64 x.idle,.int .i64 x.hard,.int .u64 x.ck,.bool x.tl] 26) = W:=⟨_,rfl⟩
 rw [hW0,hB0] at E0
 rw [hW0] at H0 g0
 have HW0:=Lib.hid (And.intro hW0 hB0)
 have zm:=zmay_a H0 f x (A:=A) (n:=n) (c:=c) hn ho (r:=0) (by rw [if_pos hm])
 have zs:=fun (W:World) (g:Wider W0 W) => zsame_c (H0.quiet g) slc (by omega) x A n c (.inl ⟨rfl,hno⟩)
 obtain ⟨nD,hnD⟩ : ∃ n,d.E.length = n:=⟨_,rfl⟩
 have u7:=fun (W:World) (g:Wider W0 W) => blk_cell (H0.quiet g).head 7 (v:=d.hv) rfl
 have u3:=fun (W:World) (g:Wider W0 W) => blk_cell (H0.quiet g).head 3 (v:=.int .i64 d.t.cap) rfl
 rw [ehv9,hnD] at u7
 have capG:d.t.cap ≤ (nD:Int):=by rw [f.hcap,← hnD]; omega
 have HE0:=Lib.hid E0
 have HU7:=Lib.hid u7
 have HU3:=Lib.hid u3
 clear H f hn ho hm hno hfull slc hlen ehv9 H0 hW0 hB0 hnD E0 u7 u3
 obtain ⟨tb,key,oth,ln,pr,bk,args,idle,hard,ck,tl⟩:=x
 show Calls Tryz.prog 10 #[.pointer (some ⟨S,0,none⟩),.agg #[.int .i64 tb,.string key,.string oth,.int .i64 ln,.int .i64 pr,.int .i64 bk,.slice A n c,.int .i64 idle,.int .i64 hard,.int .u64 ck,.bool tl],.int .i64 now] w _
 have zm:Calls Tryz.prog 9 #[.pointer (some ⟨S,0,none⟩),.agg #[.int .i64 tb,.string key,.string oth,.int .i64 ln,.int .i64 pr,.int .i64 bk,.slice A n c,.int .i64 idle,.int .i64 hard,.int .u64 ck,.bool tl]] W0 fun e w' => e = .returned (.int .i64 0) ∧ Wider W0 w':=zm
 have zs:∀ W,Wider W0 W → Calls Tryz.prog 31 #[.pointer (some ⟨S,0,none⟩),.agg #[.int .i64 tb,.string key,.string oth,.int .i64 ln,.int .i64 pr,.int .i64 bk,.slice A n c,.int .i64 idle,.int .i64 hard,.int .u64 ck,.bool tl]] W fun e w' => e = .returned (.int .i64 (-1)) ∧ Wider W w':=zs
 obtain ⟨x0,x1,x2,x3,x4,x5,x6,x7,x8,x9,x10⟩ : Ent11 W0 B0 tb key oth ln pr bk A n c idle hard ck tl:=HE0.out
 have HW1:=HW0.out.1
 have HB1:=HW0.out.2
 go_enter Tryz.func10,Tryz.ntmps10
 go_upto_region 1 with (fail)
 try rw [HW1]
 try rw [HB1]
 clear HW1 HB1
 go_upto_region 5 with (first
  | (go_at_call 9; ((with_reducible refine zm.mono ?_); rintro e w1 ⟨rfl,g1⟩; obtain ⟨y0,y1,y2,y3,y4,y5,y6,y7,y8,y9,y10⟩ : Ent11 w1 B0 tb key oth ln pr bk A n c idle hard ck tl:=HE0.out.on g1; clear zm))
  | (go_at_call 31; ((with_reducible refine (zs _ g1).mono ?_); rintro e w2 ⟨rfl,g2⟩; have v7:=HU7.out w2 (g1.trans g2); have v3:=HU3.out w2 (g1.trans g2); clear zs)))
 go_quiet (fail)
 have G:Wider w (World.drewN w2 nq):=(g0.trans (g1.trans g2)).drewN nq
 go_wp2
 go_ret
 exact ⟨rfl,G⟩
theorem butM_cut {d:StoD} {Xs:List Thing} {s:StM} (f:StF d Xs s) {A0 C0:List HeldP} {y:HeldP} (eE:d.E = A0 ++ y :: C0):butM (d.E.map HeldP.kp) y.x = (A0 ++ C0).map HeldP.kp:=by
 have nd:=f.engf.nd
 rw [eE,List.map_append,List.map_cons] at nd ⊢
 obtain ⟨h1,h2,h3⟩:=List.pairwise_append.1 nd
 have ea:butM (A0.map HeldP.kp) y.x = A0.map HeldP.kp:=butM_none fun a ha q => h3 a ha (HeldP.kp y) (.head _) q
 have eb:butM (C0.map HeldP.kp) y.x = C0.map HeldP.kp:=butM_none fun b hb q => (List.pairwise_cons.1 h2).1 b hb q.symm
 have e1:butM (A0.map HeldP.kp ++ HeldP.kp y :: C0.map HeldP.kp) y.x = butM (A0.map HeldP.kp) y.x ++ butM (HeldP.kp y :: C0.map HeldP.kp) y.x:=by unfold butM; rw [List.filter_append]
 have e2:butM (HeldP.kp y :: C0.map HeldP.kp) y.x = butM (C0.map HeldP.kp) y.x:=by unfold butM; rw [List.filter_cons,if_neg (by simp [HeldP.kp,OneK])]
 rw [e1,e2,ea,eb,List.map_append]
set_option maxRecDepth 20000 in
theorem zdelN_a {V w:World} {R Xs:List Thing} {S:Nat} {d:StoD} {s:StM} (H:Own V w (d.things S ++ (Xs ++ R))) (f:StF d Xs s) (hN:s.n < 99990) (x:EntV) (A:Option Addr) (n c:Nat) (hno:∀ h ∈ d.E,¬ OneE h.x x) :
 Calls Tryz.prog 16 #[pS S,entV x (.slice A n c)] w fun e w' => e = .returned (.bool false) ∧ Wider w w':=by
 have slc:=f.sliced H (fun t ht => List.mem_append_right _ (List.mem_append_left _ ht))
 have hlen:=f.len
 have g0:=(Wider.refl w).alloc (.cells #[.int .i64 x.tb,.string x.key,.string x.oth,.int .i64 x.ln,.int .i64 x.pr,.int .i64 x.bk,.slice A n c,.int .i64 x.idle,.int .i64 x.hard,.int .u64 x.ck,.bool x.tl] 26)
 have H0:=H.quiet g0
 have zs:=fun (W:World) (g:Wider w W) => zsame_c (H.quiet g) slc (by omega) x A n c (.inl ⟨rfl,hno⟩)
 clear H f slc hlen hno H0
 have zs:=zs _ g0
 obtain ⟨tb,key,oth,ln,pr,bk,args,idle,hard,ck,tl⟩:=x
 show Calls Tryz.prog 16 #[.pointer (some ⟨S,0,none⟩),.agg #[.int .i64 tb,.string key,.string oth,.int .i64 ln,.int .i64 pr,.int .i64 bk,.slice A n c,.int .i64 idle,.int .i64 hard,.int .u64 ck,.bool tl]] w _
 have zs:Calls Tryz.prog 31 #[.pointer (some ⟨S,0,none⟩),.agg #[.int .i64 tb,.string key,.string oth,.int .i64 ln,.int .i64 pr,.int .i64 bk,.slice A n c,.int .i64 idle,.int .i64 hard,.int .u64 ck,.bool tl]] (w.alloc (.cells #[.int .i64 tb,.string key,.string oth,.int .i64 ln,.int .i64 pr,.int .i64 bk,.slice A n c,.int .i64 idle,.int .i64 hard,.int .u64 ck,.bool tl] 26)) fun e w' => e = .returned (.int .i64 (-1)) ∧ Wider _ w':=zs
 have g0:Wider w (w.alloc (.cells #[.int .i64 tb,.string key,.string oth,.int .i64 ln,.int .i64 pr,.int .i64 bk,.slice A n c,.int .i64 idle,.int .i64 hard,.int .u64 ck,.bool tl] 26)):=g0
 go_enter Tryz.func16,Tryz.ntmps16
 go_wp2_with (first
  | (go_at_call 31; ((with_reducible refine zs.mono ?_); rintro e w1 ⟨rfl,g⟩; replace g0:=g0.trans g; clear zs g)))
 go_ret
 exact ⟨rfl,g0⟩
set_option maxRecDepth 20000 in
theorem zdelH_a {V w:World} {R Xs:List Thing} {S:Nat} {d:StoD} {s:StM} (H:Own V w (d.things S ++ (Xs ++ R))) (f:StF d Xs s) (hN:s.n < 99990) (x:EntV) (A:Option Addr) (n c:Nat) {A0 C0:List HeldP} {y:HeldP} (eE:d.E = A0 ++ y :: C0) (hy:OneE y.x x) (hA:∀ z ∈ A0,¬ OneE z.x x) :
 Calls Tryz.prog 16 #[pS S,entV x (.slice A n c)] w fun e w' => e = .returned (.bool true) ∧ ∃ hv Es2,Own V w' (({ d with hv:=hv,E:=A0 ++ C0,Es:=Es2 } : StoD).things S ++ (Xs ++ R)) ∧ EngA d.t.kind d.ws d.ev Es2 Xs ((A0 ++ C0).map HeldP.kp) s.n:=by
 have slc:=f.sliced H (fun t ht => List.mem_append_right _ (List.mem_append_left _ ht))
 have hlen:=f.len
 have g0:=(Wider.refl w).alloc (.cells #[.int .i64 x.tb,.string x.key,.string x.oth,.int .i64 x.ln,.int .i64 x.pr,.int .i64 x.bk,.slice A n c,.int .i64 x.idle,.int .i64 x.hard,.int .u64 x.ck,.bool x.tl] 26)
 have H0:=H.quiet g0
 have hfy:FitX d.t.kind d.ws y.x:=f.engf.fit (HeldP.kp y) (List.mem_map.2 ⟨y,by rw [eE]; simp,rfl⟩)
 have hym:∃ m ∈ d.E.map HeldP.kp,OneK m.1 y.x:=⟨HeldP.kp y,List.mem_map.2 ⟨y,by rw [eE]; simp,rfl⟩,rfl,rfl,rfl,rfl⟩
 have hbut:=butM_cut f eE
 have zs:=fun (W:World) (g:Wider w W) => zsame_c (H.quiet g) slc (by omega) x A n c (.inr ⟨A0,C0,y,eE,hy,hA,rfl⟩)
 obtain ⟨ix,hix⟩ : ∃ i,A0.length = i:=⟨_,rfl⟩
 have zr:=fun {R2:List Thing} (W:World) (HW:Own V W (d.things S ++ R2)) => zremove_c HW slc (by omega) f.eng hN f.engf eE hfy hym hix
 rw [hbut] at zr
 rw [hix] at zs
 have i0:¬ (ix:Int) < 0:=by omega
 have HH:=Lib.hid H
 clear H f slc hlen eE hy hA hfy hym hbut hix H0
 have zs:=zs _ g0
 obtain ⟨tb,key,oth,ln,pr,bk,args,idle,hard,ck,tl⟩:=x
 show Calls Tryz.prog 16 #[.pointer (some ⟨S,0,none⟩),.agg #[.int .i64 tb,.string key,.string oth,.int .i64 ln,.int .i64 pr,.int .i64 bk,.slice A n c,.int .i64 idle,.int .i64 hard,.int .u64 ck,.bool tl]] w _
 have zs:Calls Tryz.prog 31 #[.pointer (some ⟨S,0,none⟩),.agg #[.int .i64 tb,.string key,.string oth,.int .i64 ln,.int .i64 pr,.int .i64 bk,.slice A n c,.int .i64 idle,.int .i64 hard,.int .u64 ck,.bool tl]] (w.alloc (.cells #[.int .i64 tb,.string key,.string oth,.int .i64 ln,.int .i64 pr,.int .i64 bk,.slice A n c,.int .i64 idle,.int .i64 hard,.int .u64 ck,.bool tl] 26)) fun e w' => e = .returned (.int .i64 ((ix:Int))) ∧ Wider _ w':=zs
 have g0:Wider w (w.alloc (.cells #[.int .i64 tb,.string key,.string oth,.int .i64 ln,.int .i64 pr,.int .i64 bk,.slice A n c,.int .i64 idle,.int .i64 hard,.int .u64 ck,.bool tl] 26)):=g0
 go_enter Tryz.func16,Tryz.ntmps16
 go_wp2_with (first
  | (go_at_call 31; ((with_reducible refine zs.mono ?_); rintro e w1 ⟨rfl,g⟩; replace g0:=g0.trans g; clear zs g; have H1:=HH.out.quiet g0))
  | (go_at_call 32; ((with_reducible refine (zr _ H1).mono ?_); rintro e w2 ⟨rfl,hP⟩; have HP:=Lib.hid hP; clear zr H1 hP)))
 go_ret
 exact ⟨rfl,HP.out⟩
abbrev zeroX:EntV:=⟨0,⟨#[]⟩,⟨#[]⟩,0,0,0,[],0,0,0,false⟩
theorem held_args {V w:World} {L Xs:List Thing} {d:StoD} {s:StM} (H:Own V w L) (hX:∀ t ∈ Xs,t ∈ L) (f:StF d Xs s) {h:HeldP} (hh:h ∈ d.E):ArgsAt w h.av h.x.args:=ArgsAt.row (H.holds (argA h.x h.av) (hX _ (f.args h hh))) rfl
theorem held_small {Xs:List Thing} {d:StoD} {s:StM} (f:StF d Xs s) {h:HeldP} (hh:h ∈ d.E):h.x.key.size ≤ 32 ∧ h.x.oth.size ≤ 32 ∧ h.x.args.length ≤ 4:=by
 have m:HeldP.m h ∈ s.L:=by rw [f.hL]; exact List.mem_map.2 ⟨h,hh,rfl⟩
 have a:=f.good.small _ m
 have b:=f.good.may _ m
 unfold mayT at b
 rw [Bool.and_eq_true,decide_eq_true_eq] at b
 exact ⟨a.1,a.2,b.1.2.2.2.1⟩
theorem by_post {f:FuncId} {args:Array Value} {w:World} {P:Ending → World → Prop} (h:∀ Q:Ending → World → Prop,(∀ e w',P e w' → Q e w') → Calls Tryz.prog f args w Q):Calls Tryz.prog f args w P:=h P fun _ _ h => h
theorem found_cases {k:Int} {ws:List Nat} {E:List HeldP} {key:ByteArray} {r:Int} (h:FoundS k ws E key r):r = -1 ∨ ∃ i y,E[i]? = some y ∧ r = ((i:Nat):Int):=by
 rcases h with ⟨_,e⟩ | ⟨_,v,b,_,⟨_,e⟩ | ⟨_,i,y,hi,_,e⟩⟩
 · exact .inl e
 · exact .inl e
 · exact .inr ⟨i,y,hi,e⟩
set_option maxRecDepth 20000 in
theorem zlook_a {V w:World} {R Xs:List Thing} {S:Nat} {d:StoD} {s:StM} (H:Own V w (d.things S ++ (Xs ++ R))) (f:StF d Xs s) (hN:s.n < 99990) (key0:ByteArray) (hks:key0.size ≤ 9223372036854775807) :
 Calls Tryz.prog 14 #[pS S,.string key0] w fun e w' => ∃ r Es2,FoundS d.t.kind d.ws d.E key0 r ∧ EngA d.t.kind d.ws d.ev Es2 Xs (d.E.map HeldP.kp) s.n ∧
  ((r = -1 ∧ e = .returned (.tuple #[entV zeroX (.slice none 0 0),.bool false]) ∧ Own V w' (({ d with Es:=Es2 } : StoD).things S ++ (Xs ++ R))) ∨
   ∃ (i:Nat) (h:HeldP) (BI:Option Addr) (na cI:Nat),r = (i:Int) ∧ d.E[i]? = some h ∧ h.x.args.length = na ∧ e = .returned (.tuple #[entV h.x (.slice BI na cI),.bool true]) ∧ Own V w' (({ d with Es:=Es2 } : StoD).things S ++ (Xs ++ (argA h.x (.slice BI na cI) :: R)))):=by
 have hX:∀ t ∈ Xs,t ∈ d.things S ++ (Xs ++ R):=fun t ht => List.mem_append_right _ (List.mem_append_left _ ht)
 have slc:=f.sliced H hX
 have hlen:=f.len
 have H0:=own_box (H.blk #[.int .i64 0,.string ⟨#[]⟩,.string ⟨#[]⟩,.int .i64 0,.int .i64 0,.int .i64 0,.slice none 0 0,.int .i64 0,.int .i64 0,.int .u64 0,.bool false] 26)
 obtain ⟨B6,hB6⟩ : ∃ B,w.heap.size = B:=⟨_,rfl⟩
 obtain ⟨W0,hW0⟩ : ∃ W,w.alloc (.cells #[.int .i64 0,.string ⟨#[]⟩,.string ⟨#[]⟩,.int .i64 0,.int .i64 0,.int .i64 0,.slice none 0 0,.int .i64 0,.int .i64 0,.int .u64 0,.bool false] 26) = W:=⟨_,rfl⟩
 have HW0:=Lib.hid (And.intro hW0 hB6)
 rw [hW0,hB6] at H0
 have zf:=zfindS_c H0 slc (by omega) f.eng hN f.engf f.asc key0 hks
 have HF:=Lib.hid (And.intro f slc)
 clear H f hX slc hlen hW0 hB6
 refine by_post fun Q hQ => ?_
 have HQ:=Lib.hid hQ
 clear hQ
 show Calls Tryz.prog 14 #[.pointer (some ⟨S,0,none⟩),.string key0] w Q
 have HW1:=HW0.out.1
 have HB1:=HW0.out.2
 go_enter Tryz.func14,Tryz.ntmps14
 go_upto_region 1 with (fail)
 try rw [HW1]
 try rw [HB1]
 clear HW1 HB1
 go_upto_region 2 with (first
  | (go_at_call 40; ((with_reducible refine zf.mono ?_); rintro e w1 ⟨r,Es2,rfl,K1,he,hfd⟩; have HFD:=Lib.hid (And.intro hfd he); clear zf H0 hfd he)))
 have K2:Own V w1 (blkT B6 #[.int .i64 0,.string ⟨#[]⟩,.string ⟨#[]⟩,.int .i64 0,.int .i64 0,.int .i64 0,.slice none 0 0,.int .i64 0,.int .i64 0,.int .u64 0,.bool false] 26 :: (({ d with Es:=Es2 } : StoD).things S ++ (Xs ++ R))):=by
  refine K1.perm ?_
  have q:(Xs ++ (blkT B6 #[.int .i64 0,.string ⟨#[]⟩,.string ⟨#[]⟩,.int .i64 0,.int .i64 0,.int .i64 0,.slice none 0 0,.int .i64 0,.int .i64 0,.int .u64 0,.bool false] 26 :: R)).Perm (blkT B6 #[.int .i64 0,.string ⟨#[]⟩,.string ⟨#[]⟩,.int .i64 0,.int .i64 0,.int .i64 0,.slice none 0 0,.int .i64 0,.int .i64 0,.int .u64 0,.bool false] 26 :: (Xs ++ R)):=List.perm_middle
  exact (q.append_left _).trans List.perm_middle
 rcases found_cases HFD.out.1 with hr | ⟨i,h,hi,hr⟩
 · subst hr
   have K3:=K2
   have e0:=blk_cell K3.head 0 (v:=.int .i64 0) rfl
   have k0:=blk_free K3.head 0
   have e1:=blk_cell K3.head 1 (v:=.string ⟨#[]⟩) rfl
   have k1:=blk_free K3.head 1
   have e2:=blk_cell K3.head 2 (v:=.string ⟨#[]⟩) rfl
   have k2:=blk_free K3.head 2
   have e3:=blk_cell K3.head 3 (v:=.int .i64 0) rfl
   have k3:=blk_free K3.head 3
   have e4:=blk_cell K3.head 4 (v:=.int .i64 0) rfl
   have k4:=blk_free K3.head 4
   have e5:=blk_cell K3.head 5 (v:=.int .i64 0) rfl
   have k5:=blk_free K3.head 5
   have e6:=blk_cell K3.head 6 (v:=.slice none 0 0) rfl
   have k6:=blk_free K3.head 6
   have e7:=blk_cell K3.head 7 (v:=.int .i64 0) rfl
   have k7:=blk_free K3.head 7
   have e8:=blk_cell K3.head 8 (v:=.int .i64 0) rfl
   have k8:=blk_free K3.head 8
   have e9:=blk_cell K3.head 9 (v:=.int .u64 0) rfl
   have k9:=blk_free K3.head 9
   have e10:=blk_cell K3.head 10 (v:=.bool false) rfl
   have k10:=blk_free K3.head 10
   have K5:=Lib.hid ((((((((((((K3).store 0 (.int .i64 0)).store 1 (.string ⟨#[]⟩)).store 2 (.string ⟨#[]⟩)).store 3 (.int .i64 0)).store 4 (.int .i64 0)).store 5 (.int .i64 0)).store 6 (.slice none 0 0)).store 7 (.int .i64 0)).store 8 (.int .i64 0)).store 9 (.int .u64 0)).store 10 (.bool false))
   clear K1 K2 K3
   go_wp2
   simp [bodyPost,results,Tryz.results14,go_sem,e0,e1,e2,e3,e4,e5,e6,e7,e8,e9,e10]
   exact HQ.out _ _ ⟨-1,Es2,HFD.out.1,HFD.out.2,.inl ⟨rfl,rfl,K5.out.drop⟩⟩
 · subst hr
   obtain ⟨A1,cp,ehv,hs⟩:=sto_row K1 HF.out.2
   have ehv:d.hv = .slice A1 d.E.length cp:=ehv
   obtain ⟨nE,hnE⟩ : ∃ n,d.E.length = n:=⟨_,rfl⟩
   have hin:i < nE:=by rw [← hnE]; exact (List.getElem?_eq_some_iff.1 hi).1
   have c7:=blk_cell K1.head 7 (v:=d.hv) rfl
   rw [ehv,hnE] at c7
   obtain ⟨B0,rfl,Ay,na,cy,eav,x0,x1,x2,x3,x4,x5,x6,x7,x8,x9,x10,x11,x12,x13⟩:=hs i h hi
   have i0:(0:Int) ≤ (i:Int):=by omega
   have i1:(i:Int) < (nE:Int):=by omega
   have im:¬ (i:Int) < 0:=by omega
   obtain ⟨s1,s2,s3⟩:=held_small HF.out.1 (List.mem_of_getElem? hi)
   have ar:=held_args K1 (fun t ht => List.mem_append_right _ (List.mem_append_left _ ht)) HF.out.1 (List.mem_of_getElem? hi)
   rw [eav] at ar
   have hna:h.x.args.length = na:=by
    obtain ⟨_,_,_,e,l,_⟩:=ar
    injection e with e1 e2 e3
    rw [l,e2]
   have zo:=zown_c K2 h.x ar (by omega) (by omega) (by omega)
   have HI:=Lib.hid (And.intro hi hna)
   clear K1 hs hin ehv hnE eav hi hna ar s1 s2 s3
   obtain ⟨⟨tb,key,oth,ln,pr,bk,args,idle,hard,ck,tl⟩,av,pl0,put,used⟩:=h
   simp only at x0 x1 x2 x3 x4 x5 x6 x7 x8 x9 x10 x11 x12 x13
   have zo:Calls Tryz.prog 34 #[.agg #[.int .i64 tb,.string key,.string oth,.int .i64 ln,.int .i64 pr,.int .i64 bk,.slice Ay na cy,.int .i64 idle,.int .i64 hard,.int .u64 ck,.bool tl]] w1 fun e w' => ∃ B c',e = .returned (.agg #[.int .i64 tb,.string key,.string oth,.int .i64 ln,.int .i64 pr,.int .i64 bk,.slice B na c',.int .i64 idle,.int .i64 hard,.int .u64 ck,.bool tl]) ∧ args.length = na ∧ Own V w' (argA ⟨tb,key,oth,ln,pr,bk,args,idle,hard,ck,tl⟩ (.slice B na c') :: (blkT B6 #[.int .i64 0,.string ⟨#[]⟩,.string ⟨#[]⟩,.int .i64 0,.int .i64 0,.int .i64 0,.slice none 0 0,.int .i64 0,.int .i64 0,.int .u64 0,.bool false] 26 :: (({ d with Es:=Es2 } : StoD).things S ++ (Xs ++ R)))):=zo
   clear K2
   go_wp2_with (first
    | (go_at_call 34; ((with_reducible refine zo.mono ?_); rintro e w5 ⟨BI,cI,rfl,_,K3⟩; have K4:=K3.swap; clear zo; have e0:=blk_cell K4.head 0 (v:=.int .i64 0) rfl; have k0:=blk_free K4.head 0; have e1:=blk_cell K4.head 1 (v:=.string ⟨#[]⟩) rfl; have k1:=blk_free K4.head 1; have e2:=blk_cell K4.head 2 (v:=.string ⟨#[]⟩) rfl; have k2:=blk_free K4.head 2; have e3:=blk_cell K4.head 3 (v:=.int .i64 0) rfl; have k3:=blk_free K4.head 3; have e4:=blk_cell K4.head 4 (v:=.int .i64 0) rfl; have k4:=blk_free K4.head 4; have e5:=blk_cell K4.head 5 (v:=.int .i64 0) rfl; have k5:=blk_free K4.head 5; have e6:=blk_cell K4.head 6 (v:=.slice none 0 0) rfl; have k6:=blk_free K4.head 6; have e7:=blk_cell K4.head 7 (v:=.int .i64 0) rfl; have k7:=blk_free K4.head 7; have e8:=blk_cell K4.head 8 (v:=.int .i64 0) rfl; have k8:=blk_free K4.head 8; have e9:=blk_cell K4.head 9 (v:=.int .u64 0) rfl; have k9:=blk_free K4.head 9; have e10:=blk_cell K4.head 10 (v:=.bool false) rfl; have k10:=blk_free K4.head 10; have K5:=Lib.hid ((((((((((((K4).store 0 (.int .i64 tb)).store 1 (.string key)).store 2 (.string oth)).store 3 (.int .i64 ln)).store 4 (.int .i64 pr)).store 5 (.int .i64 bk)).store 6 (.slice BI na cI)).store 7 (.int .i64 idle)).store 8 (.int .i64 hard)).store 9 (.int .u64 ck)).store 10 (.bool tl)); clear K3 K4)))
   simp [bodyPost,results,Tryz.results14,go_sem,e0,e1,e2,e3,e4,e5,e6,e7,e8,e9,e10]
   exact HQ.out _ _ ⟨(i:Int),Es2,HFD.out.1,HFD.out.2,.inr ⟨i,_,BI,na,cI,rfl,HI.out.1,HI.out.2,rfl,own_box (H:=K5.out.drop)⟩⟩
theorem leaf_key1 {α:Type} {C P:α → Prop} {G:Prop} (k:∀ w,C w → P w) (g:Hid (∀ w,C w → P w) → G):G:=g (Lib.hid k)
def HeldP.at_ (h:HeldP) (u:Int):HeldP:={ h with used:=u }
theorem cellsHs_used:∀ (E:List HeldP) (i:Nat) (h:HeldP) (u:Int),E[i]? = some h → (cellsHs E).set (i * 14 + 13) (.int .i64 u) = cellsHs (E.set i (h.at_ u))
 | [],i,h,u,e => by simp at e
 | y :: E,0,h,u,e => by
   obtain rfl:y = h:=by simpa using e
   rw [cellsHs_cons,List.set_append_left _ _ (by rw [cellsHd_length]; omega)]
   rfl
 | y :: E,i + 1,h,u,e => by
   have e:E[i]? = some h:=by simpa using e
   rw [cellsHs_cons,List.set_append_right _ _ (by rw [cellsHd_length]; omega),cellsHd_length,show (i + 1) * 14 + 13 - 14 = i * 14 + 13 by omega,cellsHs_used E i h u e]
   rfl
theorem sliced_used {E:List HeldP} {i:Nat} {h:HeldP} {u:Int} (e:E[i]? = some h) (s:Sliced E):Sliced (E.set i (h.at_ u)):=fun y hy => by
 rcases List.mem_or_eq_of_mem_set hy with k | k
 · exact s y k
 · subst k; exact s h (List.mem_of_getElem? e)
set_option maxRecDepth 20000 in
theorem zfind_a {V w:World} {R Xs:List Thing} {S:Nat} {d:StoD} {s:StM} (H:Own V w (d.things S ++ (Xs ++ R))) (f:StF d Xs s) (hN:s.n < 99990) (key0:ByteArray) (hks:key0.size ≤ 9223372036854775807) (now:Int) :
 Calls Tryz.prog 13 #[pS S,.string key0,.int .i64 now] w fun e w' => ∃ r Es2,FoundS d.t.kind d.ws d.E key0 r ∧ EngA d.t.kind d.ws d.ev Es2 Xs (d.E.map HeldP.kp) s.n ∧
  ((r = -1 ∧ e = .returned (.tuple #[entV zeroX (.slice none 0 0),.bool false]) ∧ Own V w' (({ d with Es:=Es2 } : StoD).things S ++ (Xs ++ R))) ∨
   ∃ (i:Nat) (h:HeldP) (BI:Option Addr) (na cI:Nat),r = (i:Int) ∧ d.E[i]? = some h ∧ h.x.args.length = na ∧ e = .returned (.tuple #[entV h.x (.slice BI na cI),.bool true]) ∧ Own V w' (({ d with E:=d.E.set i (h.at_ (clampT now)),Es:=Es2 } : StoD).things S ++ (Xs ++ (argA h.x (.slice BI na cI) :: R)))):=by
 have hX:∀ t ∈ Xs,t ∈ d.things S ++ (Xs ++ R):=fun t ht => List.mem_append_right _ (List.mem_append_left _ ht)
 have slc:=f.sliced H hX
 have hlen:=f.len
 have H0:=own_box (H.blk #[.int .i64 0,.string ⟨#[]⟩,.string ⟨#[]⟩,.int .i64 0,.int .i64 0,.int .i64 0,.slice none 0 0,.int .i64 0,.int .i64 0,.int .u64 0,.bool false] 26)
 obtain ⟨B6,hB6⟩ : ∃ B,w.heap.size = B:=⟨_,rfl⟩
 obtain ⟨W0,hW0⟩ : ∃ W,w.alloc (.cells #[.int .i64 0,.string ⟨#[]⟩,.string ⟨#[]⟩,.int .i64 0,.int .i64 0,.int .i64 0,.slice none 0 0,.int .i64 0,.int .i64 0,.int .u64 0,.bool false] 26) = W:=⟨_,rfl⟩
 have HW0:=Lib.hid (And.intro hW0 hB6)
 rw [hW0,hB6] at H0
 have zt:=ztick_c now
 have zf:=zfindS_c H0 slc (by omega) f.eng hN f.engf f.asc key0 hks
 have HF:=Lib.hid (And.intro f slc)
 clear H f hX slc hlen hW0 hB6
 refine by_post fun Q hQ => ?_
 have HQ:=Lib.hid hQ
 clear hQ
 show Calls Tryz.prog 13 #[.pointer (some ⟨S,0,none⟩),.string key0,.int .i64 now] w Q
 have HW1:=HW0.out.1
 have HB1:=HW0.out.2
 go_enter Tryz.func13,Tryz.ntmps13
 go_upto_region 1 with (fail)
 try rw [HW1]
 try rw [HB1]
 clear HW1 HB1
 go_upto_region 2 with (first
  | (go_at_call 40; ((with_reducible refine zf.mono ?_); rintro e w1 ⟨r,Es2,rfl,K1,he,hfd⟩; have HFD:=Lib.hid (And.intro hfd he); clear zf H0 hfd he)))
 have K2:Own V w1 (blkT B6 #[.int .i64 0,.string ⟨#[]⟩,.string ⟨#[]⟩,.int .i64 0,.int .i64 0,.int .i64 0,.slice none 0 0,.int .i64 0,.int .i64 0,.int .u64 0,.bool false] 26 :: (({ d with Es:=Es2 } : StoD).things S ++ (Xs ++ R))):=by
  refine K1.perm ?_
  have q:(Xs ++ (blkT B6 #[.int .i64 0,.string ⟨#[]⟩,.string ⟨#[]⟩,.int .i64 0,.int .i64 0,.int .i64 0,.slice none 0 0,.int .i64 0,.int .i64 0,.int .u64 0,.bool false] 26 :: R)).Perm (blkT B6 #[.int .i64 0,.string ⟨#[]⟩,.string ⟨#[]⟩,.int .i64 0,.int .i64 0,.int .i64 0,.slice none 0 0,.int .i64 0,.int .i64 0,.int .u64 0,.bool false] 26 :: (Xs ++ R)):=List.perm_middle
  exact (q.append_left _).trans List.perm_middle
 rcases found_cases HFD.out.1 with hr | ⟨i,h,hi,hr⟩
 · subst hr
   have K3:=K2
   have e0:=blk_cell K3.head 0 (v:=.int .i64 0) rfl
   have k0:=blk_free K3.head 0
   have e1:=blk_cell K3.head 1 (v:=.string ⟨#[]⟩) rfl
   have k1:=blk_free K3.head 1
   have e2:=blk_cell K3.head 2 (v:=.string ⟨#[]⟩) rfl
   have k2:=blk_free K3.head 2
   have e3:=blk_cell K3.head 3 (v:=.int .i64 0) rfl
   have k3:=blk_free K3.head 3
   have e4:=blk_cell K3.head 4 (v:=.int .i64 0) rfl
   have k4:=blk_free K3.head 4
   have e5:=blk_cell K3.head 5 (v:=.int .i64 0) rfl
   have k5:=blk_free K3.head 5
   have e6:=blk_cell K3.head 6 (v:=.slice none 0 0) rfl
   have k6:=blk_free K3.head 6
   have e7:=blk_cell K3.head 7 (v:=.int .i64 0) rfl
   have k7:=blk_free K3.head 7
   have e8:=blk_cell K3.head 8 (v:=.int .i64 0) rfl
   have k8:=blk_free K3.head 8
   have e9:=blk_cell K3.head 9 (v:=.int .u64 0) rfl
   have k9:=blk_free K3.head 9
   have e10:=blk_cell K3.head 10 (v:=.bool false) rfl
   have k10:=blk_free K3.head 10
   have K5:=Lib.hid ((((((((((((K3).store 0 (.int .i64 0)).store 1 (.string ⟨#[]⟩)).store 2 (.string ⟨#[]⟩)).store 3 (.int .i64 0)).store 4 (.int .i64 0)).store 5 (.int .i64 0)).store 6 (.slice none 0 0)).store 7 (.int .i64 0)).store 8 (.int .i64 0)).store 9 (.int .u64 0)).store 10 (.bool false))
   clear K1 K2 K3
   go_wp2
   simp [bodyPost,results,Tryz.results13,go_sem,e0,e1,e2,e3,e4,e5,e6,e7,e8,e9,e10]
   exact HQ.out _ _ ⟨-1,Es2,HFD.out.1,HFD.out.2,.inl ⟨rfl,rfl,K5.out.drop⟩⟩
 · subst hr
   obtain ⟨A1,cp,ehv,hs⟩:=sto_row K1 HF.out.2
   have ehv:d.hv = .slice A1 d.E.length cp:=ehv
   obtain ⟨nE,hnE⟩ : ∃ n,d.E.length = n:=⟨_,rfl⟩
   have hin:i < nE:=by rw [← hnE]; exact (List.getElem?_eq_some_iff.1 hi).1
   have c7:=blk_cell K1.head 7 (v:=d.hv) rfl
   rw [ehv,hnE] at c7
   obtain ⟨B0,rfl,Ay,na,cy,eav,x0,x1,x2,x3,x4,x5,x6,x7,x8,x9,x10,x11,x12,x13⟩:=hs i h hi
   have i0:(0:Int) ≤ (i:Int):=by omega
   have i1:(i:Int) < (nE:Int):=by omega
   have im:¬ (i:Int) < 0:=by omega
   obtain ⟨s1,s2,s3⟩:=held_small HF.out.1 (List.mem_of_getElem? hi)
   have ar:=fun (W:World) (L:List Thing) (K:Own V W L) (hX:∀ t ∈ Xs,t ∈ L) => held_args K hX HF.out.1 (List.mem_of_getElem? hi)
   rw [eav] at ar
   have hna:h.x.args.length = na:=by
    obtain ⟨_,_,_,e,l,_⟩:=ar _ _ K1 (fun t ht => List.mem_append_right _ (List.mem_append_left _ ht))
    injection e with e1 e2 e3
    rw [l,e2]
   have zo:=fun (L:List Thing) (W:World) (K:Own V W L) (hX:∀ t ∈ Xs,t ∈ L) => zown_c K h.x (ar W L K hX) (by omega) (by omega) (by omega)
   have hset:=cellsHs_used d.E i h (clampT now) hi
   have hlen:i * 14 + 13 < (cellsHs d.E).length:=by rw [cellsHs_length,hnE]; omega
   have KR:Own V w1 (rowT 77 14 (.slice (some ⟨B0,0,none⟩) nE cp) nE (cellsHs d.E) :: blkT S #[.int .i64 d.t.id,.int .u8 d.t.kind,d.kv,.int .i64 d.t.cap,.int .i64 d.t.miss,.int .i64 (d.ws.sum:Int),d.ev,.slice (some ⟨B0,0,none⟩) nE cp,.int .i64 (d.last:Int)] 72 :: rowK d :: (Es2 ++ (Xs ++ (blkT B6 #[.int .i64 0,.string ⟨#[]⟩,.string ⟨#[]⟩,.int .i64 0,.int .i64 0,.int .i64 0,.slice none 0 0,.int .i64 0,.int .i64 0,.int .u64 0,.bool false] 26 :: R)))):=by
    have q:Own V w1 (rowT 77 14 d.hv d.E.length (cellsHs d.E) :: blkT S #[.int .i64 d.t.id,.int .u8 d.t.kind,d.kv,.int .i64 d.t.cap,.int .i64 d.t.miss,.int .i64 (d.ws.sum:Int),d.ev,d.hv,.int .i64 (d.last:Int)] 72 :: rowK d :: (Es2 ++ (Xs ++ (blkT B6 #[.int .i64 0,.string ⟨#[]⟩,.string ⟨#[]⟩,.int .i64 0,.int .i64 0,.int .i64 0,.slice none 0 0,.int .i64 0,.int .i64 0,.int .u64 0,.bool false] 26 :: R)))):=K1.rot3
    rw [ehv,hnE] at q
    exact q
   have HAV:=Lib.hid eav
   have HI:=Lib.hid (And.intro hi (And.intro hna (And.intro ehv (And.intro hnE (And.intro hlen hset)))))
   have HKR:=Lib.hid (KR.quiet (Wider.refl _).drew)
   have HZO:=Lib.hid zo
   have x13d:=wkeep (Wider.refl w1).drew x13
   have c7d:=wkeep (Wider.refl w1).drew c7
   clear K1 K2 hs ehv hnE eav hi hna ar s1 s2 s3 zo hset hlen KR hin
   obtain ⟨tt,htt⟩ : ∃ tt,clampT now = tt:=⟨_,rfl⟩
   have HTT:=Lib.hid htt
   rw [htt] at zt
   clear htt
   go_upto_region 4 with (fail)
   refine' leaf_key1 (C:=fun (W:World) => Own V W (rowT 77 14 (.slice (some ⟨B0,0,none⟩) nE cp) nE ((cellsHs d.E).set (i * 14 + 13) (.int .i64 tt)) :: blkT S #[.int .i64 d.t.id,.int .u8 d.t.kind,d.kv,.int .i64 d.t.cap,.int .i64 d.t.miss,.int .i64 (d.ws.sum:Int),d.ev,.slice (some ⟨B0,0,none⟩) nE cp,.int .i64 (d.last:Int)] 72 :: rowK d :: (Es2 ++ (Xs ++ (blkT B6 #[.int .i64 0,.string ⟨#[]⟩,.string ⟨#[]⟩,.int .i64 0,.int .i64 0,.int .i64 0,.slice none 0 0,.int .i64 0,.int .i64 0,.int .u64 0,.bool false] 26 :: R))))) ?key ?lea
   case lea =>
    intro KEY
    have KR:=HKR.out
    have zt:=zt
    go_region_law (first
     | (go_simp; go_at_call 33; ((with_reducible refine (zt _).mono ?_); rintro e w6 ⟨rfl,g⟩; have K6:=KR.quiet g; have x13e:=wkeep g x13d; have c7e:=wkeep g c7d; have f13:=row_free K6.head (i * 14 + 13))))
    all_goals
     have K7:=K6.rowStore (j:=i * 14 + 13) (u:=.int .i64 tt) HI.out.2.2.2.2.1 rfl
     exact KEY.out _ K7
   case key =>
    intro W K7
    rw [← HTT.out,HI.out.2.2.2.2.2] at K7
    obtain ⟨hi,hna,ehv,hnE,_⟩:=HI.out
    have hi2:(d.E.set i (h.at_ (clampT now)))[i]? = some (h.at_ (clampT now)):=by rw [List.getElem?_set_self (List.getElem?_eq_some_iff.1 hi).1]
    have hs2:=heldsAt K7.head (by rw [List.length_set]; exact hnE) (sliced_used hi HF.out.2)
    obtain ⟨B1,eB,Ay2,na2,cy2,eav2,z0,z1,z2,z3,z4,z5,z6,z7,z8,z9,z10,z11,z12,z13⟩:=hs2 i _ hi2
    obtain rfl:B0 = B1:=by injection eB with eB; injection eB
    have K8:Own V W (({ d with E:=d.E.set i (h.at_ (clampT now)),Es:=Es2 } : StoD).things S ++ (Xs ++ (blkT B6 #[.int .i64 0,.string ⟨#[]⟩,.string ⟨#[]⟩,.int .i64 0,.int .i64 0,.int .i64 0,.slice none 0 0,.int .i64 0,.int .i64 0,.int .u64 0,.bool false] 26 :: R))):=by
     show Own V W (blkT S #[.int .i64 d.t.id,.int .u8 d.t.kind,d.kv,.int .i64 d.t.cap,.int .i64 d.t.miss,.int .i64 (d.ws.sum:Int),d.ev,d.hv,.int .i64 (d.last:Int)] 72 :: rowK d :: rowT 77 14 d.hv (d.E.set i (h.at_ (clampT now))).length (cellsHs (d.E.set i (h.at_ (clampT now)))) :: (Es2 ++ (Xs ++ (blkT B6 #[.int .i64 0,.string ⟨#[]⟩,.string ⟨#[]⟩,.int .i64 0,.int .i64 0,.int .i64 0,.slice none 0 0,.int .i64 0,.int .i64 0,.int .u64 0,.bool false] 26 :: R))))
     rw [List.length_set,ehv,hnE]
     exact K7.rot3b
    have K9:Own V W (blkT B6 #[.int .i64 0,.string ⟨#[]⟩,.string ⟨#[]⟩,.int .i64 0,.int .i64 0,.int .i64 0,.slice none 0 0,.int .i64 0,.int .i64 0,.int .u64 0,.bool false] 26 :: (({ d with E:=d.E.set i (h.at_ (clampT now)),Es:=Es2 } : StoD).things S ++ (Xs ++ R))):=by
     refine K8.perm ?_
     have q:(Xs ++ (blkT B6 #[.int .i64 0,.string ⟨#[]⟩,.string ⟨#[]⟩,.int .i64 0,.int .i64 0,.int .i64 0,.slice none 0 0,.int .i64 0,.int .i64 0,.int .u64 0,.bool false] 26 :: R)).Perm (blkT B6 #[.int .i64 0,.string ⟨#[]⟩,.string ⟨#[]⟩,.int .i64 0,.int .i64 0,.int .i64 0,.slice none 0 0,.int .i64 0,.int .i64 0,.int .u64 0,.bool false] 26 :: (Xs ++ R)):=List.perm_middle
     exact (q.append_left _).trans List.perm_middle
    have c7:=blk_cell K8.head 7 (v:=d.hv) rfl
    rw [ehv,hnE] at c7
    have zo:=HZO.out _ _ K9 (fun t ht => .tail _ (List.mem_append_right _ (List.mem_append_left _ ht)))
    have HI2:=Lib.hid (And.intro hi hna)
    have eav3:h.av = .slice Ay2 na2 cy2:=eav2
    obtain ⟨rfl,rfl,rfl⟩ : Ay = Ay2 ∧ na = na2 ∧ cy = cy2:=by
     have:=HAV.out.symm.trans eav3
     injection this with a b c
     exact ⟨a,b,c⟩
    clear K7 K8 hs2 hi hna ehv hnE hi2 eav2 eav3 eB HKR HZO zt x13d c7d x0 x1 x2 x3 x4 x5 x6 x7 x8 x9 x10 x11 x12 x13
    obtain ⟨⟨tb,key,oth,ln,pr,bk,args,idle,hard,ck,tl⟩,av,pl0,put,used⟩:=h
    simp only [HeldP.at_] at z0 z1 z2 z3 z4 z5 z6 z7 z8 z9 z10 z11 z12 z13
    have zo:Calls Tryz.prog 34 #[.agg #[.int .i64 tb,.string key,.string oth,.int .i64 ln,.int .i64 pr,.int .i64 bk,.slice Ay na cy,.int .i64 idle,.int .i64 hard,.int .u64 ck,.bool tl]] W fun e w' => ∃ B c',e = .returned (.agg #[.int .i64 tb,.string key,.string oth,.int .i64 ln,.int .i64 pr,.int .i64 bk,.slice B na c',.int .i64 idle,.int .i64 hard,.int .u64 ck,.bool tl]) ∧ args.length = na ∧ Own V w' (argA ⟨tb,key,oth,ln,pr,bk,args,idle,hard,ck,tl⟩ (.slice B na c') :: (blkT B6 #[.int .i64 0,.string ⟨#[]⟩,.string ⟨#[]⟩,.int .i64 0,.int .i64 0,.int .i64 0,.slice none 0 0,.int .i64 0,.int .i64 0,.int .u64 0,.bool false] 26 :: (({ d with E:=d.E.set i (HeldP.at_ ⟨⟨tb,key,oth,ln,pr,bk,args,idle,hard,ck,tl⟩,av,pl0,put,used⟩ (clampT now)),Es:=Es2 } : StoD).things S ++ (Xs ++ R)))):=zo
    clear K9
    go_wp2_with (first
     | (go_at_call 34; ((with_reducible refine zo.mono ?_); rintro e w5 ⟨BI,cI,rfl,_,K3⟩; have K4:=K3.swap; clear zo; have e0:=blk_cell K4.head 0 (v:=.int .i64 0) rfl; have k0:=blk_free K4.head 0; have e1:=blk_cell K4.head 1 (v:=.string ⟨#[]⟩) rfl; have k1:=blk_free K4.head 1; have e2:=blk_cell K4.head 2 (v:=.string ⟨#[]⟩) rfl; have k2:=blk_free K4.head 2; have e3:=blk_cell K4.head 3 (v:=.int .i64 0) rfl; have k3:=blk_free K4.head 3; have e4:=blk_cell K4.head 4 (v:=.int .i64 0) rfl; have k4:=blk_free K4.head 4; have e5:=blk_cell K4.head 5 (v:=.int .i64 0) rfl; have k5:=blk_free K4.head 5; have e6:=blk_cell K4.head 6 (v:=.slice none 0 0) rfl; have k6:=blk_free K4.head 6; have e7:=blk_cell K4.head 7 (v:=.int .i64 0) rfl; have k7:=blk_free K4.head 7; have e8:=blk_cell K4.head 8 (v:=.int .i64 0) rfl; have k8:=blk_free K4.head 8; have e9:=blk_cell K4.head 9 (v:=.int .u64 0) rfl; have k9:=blk_free K4.head 9; have e10:=blk_cell K4.head 10 (v:=.bool false) rfl; have k10:=blk_free K4.head 10; have K5:=Lib.hid ((((((((((((K4).store 0 (.int .i64 tb)).store 1 (.string key)).store 2 (.string oth)).store 3 (.int .i64 ln)).store 4 (.int .i64 pr)).store 5 (.int .i64 bk)).store 6 (.slice BI na cI)).store 7 (.int .i64 idle)).store 8 (.int .i64 hard)).store 9 (.int .u64 ck)).store 10 (.bool tl)); clear K3 K4)))
    simp [bodyPost,results,Tryz.results13,go_sem,e0,e1,e2,e3,e4,e5,e6,e7,e8,e9,e10]
    exact HQ.out _ _ ⟨(i:Int),Es2,HFD.out.1,HFD.out.2,.inr ⟨i,_,BI,na,cI,rfl,HI2.out.1,HI2.out.2,rfl,own_box (H:=K5.out.drop)⟩⟩
end Go.Proofs.YtbnpelciceblfaaGreat
