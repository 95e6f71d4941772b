/- ZCodeK ZPutH -/
import Derived.Test.YtbnpelciceblfaaGreatW27
namespace Go.Proofs.YtbnpelciceblfaaGreat
set_option linter.unusedVariables false
open Go.ChangeShapes Go.WideShapes Go.ChangeAt Go.RowKit Go.Joins
set_option maxHeartbeats 64000000
theorem zinfoG:(Tryz.prog.info? 59).map (fun i => (i.zero,i.size,i.bytes)) = some (some (.agg #[.int .i64 0,.string ⟨#[]⟩,.string ⟨#[]⟩,.int .i64 0,.int .i64 0,.int .i64 0,.slice none 0 0,.int .i64 0,.int .i64 0,.int .u64 0,.bool false,.int .i64 0]),12,128):=by kernel_rfl
theorem newG_one (tb:Int) (key oth:ByteArray) (ln pr bk:Int) (BI:Option Addr) (na cI:Nat) (idle hard ck:Int) (tl:Bool) (tag:Int):∀ u ∈ ([.int .i64 tb,.string key,.string oth,.int .i64 ln,.int .i64 pr,.int .i64 bk,.slice BI na cI,.int .i64 idle,.int .i64 hard,.int .u64 ck,.bool tl,.int .i64 tag] : List Value),u.oneCell' = true:=by
 intro u hu
 simp only [List.mem_cons,List.not_mem_nil,or_false] at hu
 rcases hu with rfl | rfl | rfl | rfl | rfl | rfl | rfl | rfl | rfl | rfl | rfl | rfl <;> rfl
theorem gone_lies (w:World) (C:Array Value):(∀ a:Addr,some (⟨w.heap.size,0,none⟩ : Addr) = some a → ∀ j u,C.toList[j]? = some u → (w.alloc (.cells C 59)).cell? (a.add j) = some u):=fun a e j u hu => by
 cases e
 rw [Addr.add_lit,Nat.zero_add,World.cell?_alloc_new]
 simpa using hu
theorem cellsG_snoc (G:List GoneM) (g:GoneM):cellsG (G ++ [g]) = cellsG G ++ ((entC g.e.x g.e.av).toList ++ [.int .i64 g.tag]):=by unfold cellsG; rw [List.flatMap_append]; simp
theorem StF.time {d:StoD} {Xs:List Thing} {s:StM} (f:StF d Xs s) {h:HeldP} (hh:h ∈ d.E):TimeH h:=by
 have m:HeldP.m h ∈ s.L:=by rw [f.hL]; exact List.mem_map.2 ⟨h,hh,rfl⟩
 have a:=f.good.l.put _ m
 have b:=f.good.l.found _ m
 have c:=f.good.l.hard _ m
 have e:=f.good.l.idle _ m
 exact ⟨a.1,a.2,b.1,b.2,c.1,c.2,e.1,e.2⟩
theorem drop_next {E:List HeldP} {k:Nat} (h:k < E.length):∃ y,E[k]? = some y ∧ E.drop k = y :: E.drop (k + 1):=⟨E[k],List.getElem?_eq_getElem h,by rw [List.getElem_cons_drop]⟩
theorem out_next {t:Int} {E:List HeldP} {k:Nat} {y:HeldP} (h:E[k]? = some y):(tagT t y.m = 0 → outT t ((E.take (k + 1)).map HeldP.m) = outT t ((E.take k).map HeldP.m) ∧ restT t ((E.take (k + 1)).map HeldP.m) = restT t ((E.take k).map HeldP.m) ++ [y.m]) ∧
 (tagT t y.m ≠ 0 → outT t ((E.take (k + 1)).map HeldP.m) = outT t ((E.take k).map HeldP.m) ++ [(y.x,tagT t y.m)] ∧ restT t ((E.take (k + 1)).map HeldP.m) = restT t ((E.take k).map HeldP.m)):=by
 obtain ⟨hk,rfl⟩:=List.getElem?_eq_some_iff.1 h
 rw [List.take_succ_eq_append_getElem hk,List.map_append,out_append,rest_append]
 refine ⟨fun q => ?_,fun q => ?_⟩
 · have a:outT t ([E[k]].map HeldP.m) = []:=by unfold outT; simp [q]
   have b:restT t ([E[k]].map HeldP.m) = [E[k].m]:=by unfold restT; simp [q]
   rw [a,b,List.append_nil]; exact ⟨rfl,rfl⟩
 · have a:outT t ([E[k]].map HeldP.m) = [(E[k].x,tagT t E[k].m)]:=by unfold outT; simp [q]; rfl
   have b:restT t ([E[k]].map HeldP.m) = []:=by unfold restT; simp [q]
   rw [a,b,List.append_nil]; exact ⟨rfl,rfl⟩
def lenAt (w:World) (S:Nat):Nat:=match w.cell? ⟨S,7,none⟩ with | some (.slice _ n _) => n | _ => 0
structure ExpA (d:StoD) (Xs:List Thing) (s:StM) (t:Int) (k:Nat) (A:List HeldP) (G:List GoneM) (hv:Value) (Es:List Thing):Prop where
 f:StF ({ d with hv:=hv,E:=A ++ d.E.drop k,Es:=Es } : StoD) Xs { s with L:=(A ++ d.E.drop k).map HeldP.m }
 rest:A.map HeldP.m = restT t ((d.E.take k).map HeldP.m)
 out:(G.map fun g => (g.e.x,g.tag)) = outT t ((d.E.take k).map HeldP.m)
theorem own_mid5 {V w:World} {a b:Thing} {X T Z:List Thing} (H:Own V w (a :: b :: (X ++ (T ++ Z)))):Own V w (T ++ (a :: b :: (X ++ Z))) :=
 H.perm ((((perm_mid X T Z).cons b).cons a).trans (perm_mid [a,b] T (X ++ Z)))
theorem own_back5 {V w:World} {a b:Thing} {X T Z:List Thing} (H:Own V w (T ++ (a :: b :: (X ++ Z)))):Own V w (a :: (X ++ [b]) ++ (T ++ Z)):=by
 have p1:(T ++ (a :: b :: (X ++ Z))).Perm (a :: b :: (X ++ (T ++ Z))):=((((perm_mid X T Z).cons b).cons a).trans (perm_mid [a,b] T (X ++ Z))).symm
 refine (H.perm p1).perm (List.Perm.cons _ ?_)
 show (b :: (X ++ (T ++ Z))).Perm ((X ++ [b]) ++ (T ++ Z))
 rw [List.append_assoc]
 exact (List.perm_middle (l₁:=X)).symm
theorem expA_keep {d:StoD} {Xs:List Thing} {s:StM} {t:Int} {k:Nat} {A:List HeldP} {G:List GoneM} {hv:Value} {Es:List Thing} (h:ExpA d Xs s t k A G hv Es) {y:HeldP} (hy:d.E[k]? = some y) (ed:d.E.drop k = y :: d.E.drop (k + 1)) (ht:tagT t y.m = 0):ExpA d Xs s t (k + 1) (A ++ [y]) G hv Es:=by
 have e:(A ++ [y]) ++ d.E.drop (k + 1) = A ++ d.E.drop k:=by rw [ed,List.append_assoc]; rfl
 obtain ⟨o,r⟩:=(out_next hy).1 ht
 refine ⟨?_,?_,?_⟩
 · rw [e]; exact h.f
 · rw [r,List.map_append,h.rest]; rfl
 · rw [o]; exact h.out
set_option maxRecDepth 20000 in
theorem zexpire_a {V w:World} {R Xs:List Thing} {S:Nat} {d:StoD} {s:StM} (H:Own V w (d.things S ++ (Xs ++ R))) (f:StF d Xs s) (hN:s.n < 99990) (now:Int) :
 Calls Tryz.prog 17 #[pS S,.int .i64 now] w fun e w' => ∃ B n c G A hv Es,e = .returned (.slice B n c) ∧ G.length = n ∧ (G.map fun g => (g.e.x,g.tag)) = outT (clampT now) (d.E.map HeldP.m) ∧ A.map HeldP.m = restT (clampT now) (d.E.map HeldP.m) ∧ StF ({ d with hv:=hv,E:=A,Es:=Es } : StoD) Xs { s with L:=A.map HeldP.m } ∧ Own V w' (gonesT (.slice B n c) n G ++ (({ d with hv:=hv,E:=A,Es:=Es } : StoD).things S ++ (Xs ++ R))):=by
 obtain ⟨tt,htt⟩ : ∃ tt,clampT now = tt:=⟨_,rfl⟩
 have zt:=ztick_c now
 have ht:=clampT_le now
 rw [htt] at zt ht
 have hlen:=f.len
 have HT:=Lib.hid (And.intro htt ht)
 obtain ⟨i0,hi,hz0,hz1,hz2⟩:=info_parts zinfoG
 have H0:Own V w (gonesT (.slice none 0 0) 0 [] ++ (d.things S ++ (Xs ++ R))):=H.row (Wider.refl _) (World.ownsRow_nil _ _ 59 12)
 have e0:ExpA d Xs s tt 0 [] [] d.hv d.Es:=⟨by
  have q:({ s with L:=([] ++ d.E.drop 0).map HeldP.m } : StM) = s:=by
   show ({ s with L:=d.E.map HeldP.m } : StM) = s
   rw [← f.hL]
  rw [q]; exact f,rfl,rfl⟩
 obtain ⟨nE,hnE⟩ : ∃ n,d.E.length = n:=⟨_,rfl⟩
 have HX:=Lib.hid (And.intro hnE (And.intro hN hlen))
 have HE0:=Lib.hid e0
 clear H f hN htt hlen hnE e0
 rw [HT.out.1]
 refine by_post fun Q hQ => ?_
 have HQ:=Lib.hid hQ
 clear hQ ht
 show Calls Tryz.prog 17 #[.pointer (some ⟨S,0,none⟩),.int .i64 now] w Q
 go_enter Tryz.func17,Tryz.ntmps17
 go_wp2_with (first
  | (go_at_call 33; ((with_reducible refine (zt _).mono ?_); rintro e w1 ⟨rfl,g⟩; replace H0:=H0.quiet g; clear zt g)))
 go_loopw [5,6] (fun a b wr => ∃ (k nA:Nat) (A:List HeldP) (G:List GoneM) (hv:Value) (Es:List Thing) (v:Value),k ≤ nE ∧ a = v ∧ b = .int .i64 (nA:Int) ∧ Hid (A.length = nA) ∧ Hid (ExpA d Xs s tt k A G hv Es) ∧ Own V wr (gonesT v G.length G ++ ((({ d with hv:=hv,E:=A ++ d.E.drop k,Es:=Es } : StoD)).things S ++ (Xs ++ R)))) (fun a b wr => lenAt wr S - (intOf b).toNat)
 case atStart => exact ⟨0,0,[],[],d.hv,d.Es,_,Nat.zero_le _,rfl,rfl,Lib.hid rfl,HE0,H0⟩
 case round =>
  clear H0
  obtain ⟨k,nA,A,G,hv,Es,v,hk,rfl,rfl,HNA,HE,H⟩:=hrel
  have hnA:=HNA.out
  have Hd:Own V wr ((({ d with hv:=hv,E:=A ++ d.E.drop k,Es:=Es } : StoD)).things S ++ (Xs ++ R)):=own_rest H
  have fj:=HE.out.f
  have slc:=fj.sliced Hd (fun t ht => List.mem_append_right _ (List.mem_append_left _ ht))
  obtain ⟨A1,cp,ehv,hs⟩:=sto_row Hd slc
  have ehv:hv = .slice A1 (A ++ d.E.drop k).length cp:=ehv
  have hs:HeldsAt wr A1 (A ++ d.E.drop k):=hs
  have c7:=blk_cell Hd.head 7 (v:=hv) rfl
  rw [ehv,List.length_append,hnA] at c7
  have hdl:(d.E.drop k).length = nE - k:=by rw [List.length_drop,HX.out.1]
  rw [hdl] at c7
  have a0:(0:Int) ≤ (nA:Int):=by omega
  have hnA256:nA + (nE - k) ≤ 256:=by
   have:=fj.len
   have e:(A ++ d.E.drop k).length = nA + (nE - k):=by rw [List.length_append,hnA,hdl]
   have q:(A ++ d.E.drop k).length ≤ 256:=this
   omega
  have HA256:=Lib.hid hnA256
  have hme:lenAt wr S = nA + (nE - k):=by unfold lenAt; rw [c7]
  by_cases dd:k < nE
  · obtain ⟨y,hy,edrop⟩:=drop_next (E:=d.E) (k:=k) (by rw [HX.out.1]; exact dd)
    have hat:(A ++ d.E.drop k)[nA]? = some y:=by rw [edrop,← hnA,List.getElem?_append_right (Nat.le_refl _),Nat.sub_self]; rfl
    obtain ⟨m,hm⟩ : ∃ m,nA + (nE - k) = m:=⟨_,rfl⟩
    rw [hm] at c7 hme
    have a1:(nA:Int) < (m:Int):=by omega
    have hym:y ∈ A ++ d.E.drop k:=List.mem_of_getElem? hat
    obtain ⟨B0,rfl,Ay,na,cy,eav,x0,x1,x2,x3,x4,x5,x6,x7,x8,x9,x10,x11,x12,x13⟩:=hs nA y hat
    have ze:=zexpired_c y (fj.time hym) Ay na cy HT.out.2 (r:=tagT tt y.m) rfl
    obtain ⟨s1,s2,s3⟩:=held_small fj hym
    have hX:∀ t ∈ Xs,t ∈ gonesT u5 G.length G ++ ((({ d with hv:=hv,E:=A ++ d.E.drop k,Es:=Es } : StoD)).things S ++ (Xs ++ R)):=fun t ht => List.mem_append_right _ (List.mem_append_right _ (List.mem_append_left _ ht))
    have ar:=held_args H hX fj hym
    rw [eav] at ar
    have hna:y.x.args.length = na:=by
     obtain ⟨_,_,_,e,l,_⟩:=ar
     injection e with e1 e2 e3
     rw [l,e2]
    have zo:=fun (W:World) (g:Wider wr W) => zown_c (H.quiet g) y.x (ar.on g) (by omega) (by omega) (by omega)
    obtain ⟨tag,htag⟩ : ∃ tag,tagT tt y.m = tag:=⟨_,rfl⟩
    rw [htag] at ze
    have HY:=Lib.hid (And.intro hy (And.intro edrop (And.intro htag (And.intro hna (And.intro hm ehv)))))
    have HH:=Lib.hid H
    have aw:IntKind.i64.wrap ((nA:Int) + 1) = (nA:Int) + 1:=by simp [IntKind.wrap,IntKind.bits,IntKind.signed]; omega
    by_cases ct:tag = 0
    · subst ct
      clear Hd fj slc hs ehv hy edrop hat hym s1 s2 s3 hX ar hna zo htag H hnA hnA256 hdl eav hm
      obtain ⟨⟨tb,key,oth,ln,pr,bk,args,idle,hard,ck,tl⟩,av,pl0,put,used⟩:=y
      obtain ⟨pl,hpl⟩ : ∃ pl:Int,(pl0:Int) = pl:=⟨_,rfl⟩
      simp only [hpl] at x0 x1 x2 x3 x4 x5 x6 x7 x8 x9 x10 x11 x12 x13
      have ze:∀ w,Calls Tryz.prog 43 #[.agg #[.int .i64 tb,.string key,.string oth,.int .i64 ln,.int .i64 pr,.int .i64 bk,.slice Ay na cy,.int .i64 idle,.int .i64 hard,.int .u64 ck,.bool tl,.int .i64 pl,.int .i64 put,.int .i64 used],.int .i64 tt] w fun e w' => e = .returned (.int .i64 0) ∧ Wider w w':=by rw [← hpl]; exact ze
      clear hpl
      go_wp2_with (first
       | (go_at_call 43; ((with_reducible refine (ze _).mono ?_); rintro e w2 ⟨rfl,g⟩; clear ze)))
      go_roundw
      case rel =>
       refine ⟨k + 1,nA + 1,A ++ [_],G,hv,Es,u5,by omega,rfl,by go_num,Lib.hid (by rw [List.length_append,HNA.out]; rfl),Lib.hid (expA_keep HE.out HY.out.1 HY.out.2.1 HY.out.2.2.1),?_⟩
       have q:=HH.out.quiet g
       rw [HY.out.2.1] at q
       rw [List.append_assoc]
       exact q
      case measure =>
       have c7b:=wkeep g c7
       have hme2:lenAt w2 S = m:=by unfold lenAt; rw [c7b]
       simp [intOf,hme,hme2]; omega
    · have ct2:(tag == 0) = false:=by rw [beq_eq_false_iff_ne]; exact ct
      have hfy:FitX d.t.kind d.ws y.x:=fj.engf.fit (HeldP.kp y) (List.mem_map.2 ⟨y,hym,rfl⟩)
      have eE:A ++ d.E.drop k = A ++ y :: d.E.drop (k + 1):=by rw [edrop]
      have hmm:∃ m ∈ (A ++ d.E.drop k).map HeldP.kp,OneK m.1 y.x:=⟨HeldP.kp y,List.mem_map.2 ⟨y,hym,rfl⟩,rfl,rfl,rfl,rfl⟩
      have hbut:=butM_cut fj eE
      have zr:=fun {R2:List Thing} (W:World) (HW:Own V W ((({ d with hv:=hv,E:=A ++ d.E.drop k,Es:=Es } : StoD)).things S ++ R2)) => zremove_c HW slc (by have:=fj.len; omega) fj.eng HX.out.2.1 fj.engf eE hfy hmm hnA
      rw [hbut] at zr
      obtain ⟨nG,hnG⟩ : ∃ n,G.length = n:=⟨_,rfl⟩
      have HNG:=Lib.hid hnG
      have h256:=HX.out.2.2
      have S1:Hid (nG + 1 ≤ maxLen):=Lib.hid (by
       have e:G.length = (outT tt ((d.E.take k).map HeldP.m)).length:=by rw [← HE.out.out,List.length_map]
       have q:(outT tt ((d.E.take k).map HeldP.m)).length ≤ (d.E.take k).length:=by unfold outT; rw [List.length_map]; exact Nat.le_trans (List.length_filter_le _ _) (by rw [List.length_map]; exact Nat.le_refl _)
       rw [List.length_take] at q
       unfold maxLen; omega)
      have S2:Hid ((nG + 1) * 128 ≤ 140737488355328):=Lib.hid (by
       have e:G.length = (outT tt ((d.E.take k).map HeldP.m)).length:=by rw [← HE.out.out,List.length_map]
       have q:(outT tt ((d.E.take k).map HeldP.m)).length ≤ (d.E.take k).length:=by unfold outT; rw [List.length_map]; exact Nat.le_trans (List.length_filter_le _ _) (by rw [List.length_map]; exact Nat.le_refl _)
       rw [List.length_take] at q
       omega)
      have heldC:=fun (W:World) (g:Wider wr W) => (hs.on g) nA y hat
      rw [hnG] at zo
      have ZO:=Lib.hid zo
      have HELD:=Lib.hid heldC
      have hme0:=Lib.hid hme
      clear Hd fj slc hs ehv hy edrop hat hym s1 s2 s3 hX ar hna zo htag H hnA hnA256 hdl hm hfy hmm hbut eE hnG heldC hme
      obtain ⟨⟨tb,key,oth,ln,pr,bk,args,idle,hard,ck,tl⟩,av,pl0,put,used⟩:=y
      obtain ⟨pl,hpl⟩ : ∃ pl:Int,(pl0:Int) = pl:=⟨_,rfl⟩
      simp only [hpl] at x0 x1 x2 x3 x4 x5 x6 x7 x8 x9 x10 x11 x12 x13
      have ze:∀ w,Calls Tryz.prog 43 #[.agg #[.int .i64 tb,.string key,.string oth,.int .i64 ln,.int .i64 pr,.int .i64 bk,.slice Ay na cy,.int .i64 idle,.int .i64 hard,.int .u64 ck,.bool tl,.int .i64 pl,.int .i64 put,.int .i64 used],.int .i64 tt] w fun e w' => e = .returned (.int .i64 tag) ∧ Wider w w':=by rw [← hpl]; exact ze
      clear hpl
      have ZO2:Hid (∀ W,Wider wr W → Calls Tryz.prog 34 #[.agg #[.int .i64 tb,.string key,.string oth,.int .i64 ln,.int .i64 pr,.int .i64 bk,.slice Ay na cy,.int .i64 idle,.int .i64 hard,.int .u64 ck,.bool tl]] W fun e w' => ∃ B c',e = .returned (.agg #[.int .i64 tb,.string key,.string oth,.int .i64 ln,.int .i64 pr,.int .i64 bk,.slice B na c',.int .i64 idle,.int .i64 hard,.int .u64 ck,.bool tl]) ∧ args.length = na ∧ Own V w' (rowT 24 1 (.slice B na c') args.length (u64s args) :: rowT 59 12 u5 nG (cellsG G) :: ((G.map fun g => argT g.e) ++ ((({ d with hv:=hv,E:=A ++ d.E.drop k,Es:=Es } : StoD)).things S ++ (Xs ++ R))))):=Lib.hid ZO.out
      clear ZO
      go_wp2_with (first
       | (go_at_call 43; ((with_reducible refine (ze _).mono ?_); rintro e w2 ⟨rfl,g⟩; have c7b:=wkeep g c7; have y0:=wkeep g x0; have y1:=wkeep g x1; have y2:=wkeep g x2; have y3:=wkeep g x3; have y4:=wkeep g x4; have y5:=wkeep g x5; have y6:=wkeep g x6; have y7:=wkeep g x7; have y8:=wkeep g x8; have y9:=wkeep g x9; have y10:=wkeep g x10; have zo:=ZO2.out w2 g; clear ze))
       | (go_at_call 34; ((with_reducible refine zo.mono ?_); rintro e w3 ⟨BI,cI,rfl,_,H3⟩; have H4:=H3.swap.quiet ((Wider.refl w3).alloc (.cells #[.int .i64 tb,.string key,.string oth,.int .i64 ln,.int .i64 pr,.int .i64 bk,.slice BI na cI,.int .i64 idle,.int .i64 hard,.int .u64 ck,.bool tl,.int .i64 tag] 59)); have cl:=gone_lies w3 #[.int .i64 tb,.string key,.string oth,.int .i64 ln,.int .i64 pr,.int .i64 bk,.slice BI na cI,.int .i64 idle,.int .i64 hard,.int .u64 ck,.bool tl,.int .i64 tag]; have ONE:=newG_one tb key oth ln pr bk BI na cI idle hard ck tl tag; clear zo H3))
       | (at_builtin; refine wpList_append_thing rfl (.tmp 32) (.tmp 44) 46 rfl 59 i0 (.agg #[.int .i64 0,.string ⟨#[]⟩,.string ⟨#[]⟩,.int .i64 0,.int .i64 0,.int .i64 0,.slice none 0 0,.int .i64 0,.int .i64 0,.int .u64 0,.bool false,.int .i64 0]) 12 128 Tryz.underlying46 hi hz0 hz1 hz2 rfl (by decide) u5 nG (cellsG G) rfl H4 (some ⟨w3.heap.size,0,none⟩) 1 1 [.int .i64 tb,.string key,.string oth,.int .i64 ln,.int .i64 pr,.int .i64 bk,.slice BI na cI,.int .i64 idle,.int .i64 hard,.int .u64 ck,.bool tl,.int .i64 tag] rfl rfl (fun e => by cases e) cl ONE S1.out S2.out rfl rfl ?_; intro B3 c3 w5 H5; have H6:=own_mid5 H5; clear H4 H5 cl ONE)
       | (go_at_call 32; ((with_reducible refine (zr _ H6).mono ?_); rintro e w6 ⟨rfl,hv2,Es2,H7,he7⟩; have HH7:=Lib.hid (And.intro H7 he7); clear zr H6 H7 he7)))
      go_roundw
      all_goals have fn:StF ({ d with hv:=hv2,E:=A ++ d.E.drop (k + 1),Es:=Es2 } : StoD) Xs { s with L:=(A ++ d.E.drop (k + 1)).map HeldP.m } :=StF.cut (hv:=hv2) HE.out.f (A:=A) (B:=d.E.drop (k + 1)) (by show A ++ d.E.drop k = _; rw [HY.out.2.1]) HH7.out.2
      case rel =>
       refine ⟨k + 1,nA,A,G ++ [⟨⟨⟨tb,key,oth,ln,pr,bk,args,idle,hard,ck,tl⟩,.slice BI na cI⟩,tag⟩],hv2,Es2,_,by omega,rfl,rfl,HNA,Lib.hid ⟨fn,?_,?_⟩,?_⟩
       · rw [((out_next HY.out.1).2 (by rw [HY.out.2.2.1]; exact ct)).2]; exact HE.out.rest
       · rw [((out_next HY.out.1).2 (by rw [HY.out.2.2.1]; exact ct)).1,List.map_append,HE.out.out,HY.out.2.2.1]; rfl
       · have q:=own_back5 HH7.out.1
         have e:(G ++ [(⟨⟨⟨tb,key,oth,ln,pr,bk,args,idle,hard,ck,tl⟩,.slice BI na cI⟩,tag⟩ : GoneM)]).length = nG + 1:=by rw [List.length_append,HNG.out]; rfl
         rw [e]
         show Own V w6 (rowT 59 12 _ (nG + 1) (cellsG (G ++ [_])) :: ((G ++ [_]).map fun (g:GoneM) => argT g.e) ++ _)
         rw [cellsG_snoc,List.map_append]
         exact q
      case measure =>
       have slc:=fn.sliced HH7.out.1 (fun t ht => List.mem_append_right _ (.tail _ (.tail _ (List.mem_append_right _ (List.mem_append_left _ ht)))))
       obtain ⟨A2,cp2,ehv2,_⟩:=sto_row HH7.out.1 slc
       have ehv2:hv2 = .slice A2 (A ++ d.E.drop (k + 1)).length cp2:=ehv2
       have c7z:=blk_cell HH7.out.1.head 7 (v:=hv2) rfl
       rw [ehv2,List.length_append,HNA.out,List.length_drop,HX.out.1] at c7z
       have hme2:lenAt w6 S = nA + (nE - (k + 1)):=by unfold lenAt; rw [c7z]
       have e1:=hme0.out
       have e2:=HY.out.2.2.2.2.1
       simp [intOf,hme2,e1]; omega
  · obtain rfl:k = nE:=by omega
    have hd0:d.E.drop k = []:=List.drop_of_length_le (by rw [HX.out.1]; exact Nat.le_refl _)
    have ht0:d.E.take k = d.E:=List.take_of_length_le (by rw [HX.out.1]; exact Nat.le_refl _)
    have e0:nA + (k - k) = nA:=by omega
    rw [e0] at c7
    have a1:¬ (nA:Int) < (nA:Int):=by omega
    obtain ⟨BG,cG,ev⟩:=ownsRow_shape H.head
    have hfin:=HE.out
    have HD:=Lib.hid (And.intro hd0 (And.intro ht0 (And.intro ev H)))
    clear hdl hs hd0 ht0 ev H Hd fj slc ehv hfin
    go_wp2
    obtain ⟨hd0,ht0,ev,H⟩:=HD.out
    obtain ⟨ff,fr,fo⟩:=HE.out
    rw [hd0,List.append_nil] at ff H
    rw [ht0] at fr fo
    rw [ev] at H ⊢
    exact HQ.out _ _ ⟨BG,_,cG,G,A,hv,Es,rfl,rfl,fo,fr,ff,H⟩
set_option maxRecDepth 20000 in
theorem zputH_a {V w:World} {R Xs:List Thing} {S:Nat} {d:StoD} {s:StM} (H:Own V w (d.things S ++ (Xs ++ R))) (f:StF d Xs s) (hN:s.n < 99990) (x:EntV) {A:Option Addr} {n c:Nat} (ha:∀ W,Own V W R → ArgsAt W (.slice A n c) x.args) (ho:x.Ok) (hm:mayT s x = true) {A0 C0:List HeldP} {y:HeldP} (eE:d.E = A0 ++ y :: C0) (hy:OneE y.x x) (hA:∀ z ∈ A0,¬ OneE z.x x) (now:Int) :
 Calls Tryz.prog 10 #[pS S,entV x (.slice A n c),.int .i64 now] w fun e w' => e = .returned (.int .i64 0) ∧ ∃ BI cI hv Es2,x.args.length = n ∧ Own V w' (({ d with hv:=hv,last:=d.last + 1,E:=(A0 ++ C0) ++ [⟨x,.slice BI n cI,d.last + 1,clampT now,clampT now⟩],Es:=Es2 } : StoD).things S ++ ((argA x (.slice BI n cI) :: Xs) ++ R)) ∧ EngA d.t.kind d.ws d.ev Es2 (argA x (.slice BI n cI) :: Xs) (((A0 ++ C0) ++ [(⟨x,.slice BI n cI,d.last + 1,clampT now,clampT now⟩ : HeldP)]).map HeldP.kp) (s.n + 1):=by
 have hn:x.args.length = n:=by
  obtain ⟨_,_,_,e,l,_⟩:=ha w (own_rest (own_rest H))
  injection e with e1 e2 e3
  rw [l,e2]
 obtain ⟨hfx,htb,_,_⟩:=mayT_fit f.hkm hm
 obtain ⟨sk,so⟩:=fit_small f.k1 f.k4 f.engf.w32 hfx
 have n4:n ≤ 4:=by
  unfold mayT at hm
  rw [Bool.and_eq_true,decide_eq_true_eq] at hm
  rw [← hn]; exact hm.1.2.2.2.1
 have slc:=f.sliced H (fun t ht => List.mem_append_right _ (List.mem_append_left _ ht))
 have hlen:=f.len
 have hyk:OneK y.x x:=hy.2
 have hfy:FitX d.t.kind d.ws y.x:=f.engf.fit (HeldP.kp y) (List.mem_map.2 ⟨y,by rw [eE]; simp,rfl⟩)
 have hym:∃ m ∈ d.E.map HeldP.kp,OneK m.1 y.x:=⟨HeldP.kp y,List.mem_map.2 ⟨y,by rw [eE]; simp,rfl⟩,rfl,rfl,rfl,rfl⟩
 have hbut:butM (d.E.map HeldP.kp) y.x = (A0 ++ C0).map HeldP.kp:=by
  have nd:=f.engf.nd
  rw [eE,List.map_append,List.map_cons] at nd ⊢
  obtain ⟨h1,h2,h3⟩:=List.pairwise_append.1 nd
  have ea:butM (A0.map HeldP.kp) y.x = A0.map HeldP.kp:=butM_none fun a ha q => h3 a ha (HeldP.kp y) (.head _) q
  have eb:butM (C0.map HeldP.kp) y.x = C0.map HeldP.kp:=butM_none fun b hb q => (List.pairwise_cons.1 h2).1 b hb q.symm
  have e1:butM (A0.map HeldP.kp ++ HeldP.kp y :: C0.map HeldP.kp) y.x = butM (A0.map HeldP.kp) y.x ++ butM (HeldP.kp y :: C0.map HeldP.kp) y.x:=by unfold butM; rw [List.filter_append]
  have e2:butM (HeldP.kp y :: C0.map HeldP.kp) y.x = butM (C0.map HeldP.kp) y.x:=by unfold butM; rw [List.filter_cons,if_neg (by simp [HeldP.kp,OneK])]
  rw [e1,e2,ea,eb,List.map_append]
 have hno2:∀ m ∈ (A0 ++ C0).map HeldP.kp,¬ OneK m.1 x:=fun m hm q => by
  rw [← hbut] at hm
  exact (mem_butM.1 hm).2 ⟨q.1.trans hyk.1.symm,q.2.1.trans hyk.2.1.symm,q.2.2.1.trans hyk.2.2.1.symm,q.2.2.2.trans hyk.2.2.2.symm⟩
 have hl2:((A0 ++ C0).map HeldP.kp).length < 256:=by
  have:=congrArg List.length eE
  rw [List.length_append,List.length_cons] at this
  rw [List.length_map,List.length_append]; omega
 have hef:EngF d.t.kind d.ws ((A0 ++ C0).map HeldP.kp):=by rw [← hbut]; exact f.engf.but y.x
 have hidx:IndexH d.E x (A0.length:Int):=.inr ⟨A0,C0,y,eE,hy,hA,rfl⟩
 have hll:(A0 ++ C0).length ≤ 256:=by rw [List.length_map] at hl2; omega
 have H0:=own_box (H.blk #[.int .i64 x.tb,.string x.key,.string x.oth,.int .i64 x.ln,.int .i64 x.pr,.int .i64 x.bk,.slice A n c,.int .i64 x.idle,.int .i64 x.hard,.int .u64 x.ck,.bool x.tl] 26)
 have g0:=(Wider.refl w).alloc (.cells #[.int .i64 x.tb,.string x.key,.string x.oth,.int .i64 x.ln,.int .i64 x.pr,.int .i64 x.bk,.slice A n c,.int .i64 x.idle,.int .i64 x.hard,.int .u64 x.ck,.bool x.tl] 26)
 have zo:=fun (R':List Thing) (W:World) (HW:Own V W R') (hr:Own V W R) => zown_c HW x (ha W hr) (by omega) (by omega) (by omega)
 obtain ⟨B0,hB0⟩ : ∃ B,w.heap.size = B:=⟨_,rfl⟩
 obtain ⟨W0,hW0⟩ : ∃ W,w.alloc (.cells #[.int .i64 x.tb,.string x.key,.string x.oth,.int .i64 x.ln,.int .i64 x.pr,.int .i64 x.bk,.slice A n c,.int .i64 x.idle,.int .i64 x.hard,.int .u64 x.ck,.bool x.tl] 26) = W:=⟨_,rfl⟩
 have HW0:=Lib.hid (And.intro hW0 hB0)
 rw [hW0,hB0] at H0
 rw [hW0] at g0
 have zm:=zmay_a H0 f x (A:=A) (n:=n) (c:=c) hn ho (r:=0) (by rw [if_pos hm])
 have zs:=fun (W:World) (g:Wider W0 W) => zsame_c (H0.quiet g) slc (by omega) x A n c hidx
 have zt:=ztick_c now
 have entC:=fun (L:List Thing) (W:World) (K:Own V W L) (m:blkT B0 #[.int .i64 x.tb,.string x.key,.string x.oth,.int .i64 x.ln,.int .i64 x.pr,.int .i64 x.bk,.slice A n c,.int .i64 x.idle,.int .i64 x.hard,.int .u64 x.ck,.bool x.tl] 26 ∈ L) (i:Nat) (v:Value) (hv:(#[.int .i64 x.tb,.string x.key,.string x.oth,.int .i64 x.ln,.int .i64 x.pr,.int .i64 x.bk,.slice A n c,.int .i64 x.idle,.int .i64 x.hard,.int .u64 x.ck,.bool x.tl] : Array Value)[i]? = some v) => blk_cell (K.holds _ m) i hv
 have hev0:=engA_some f.eng
 obtain ⟨la,hla⟩ : ∃ la:Int,((d.last + 1:Nat):Int) = la:=⟨_,rfl⟩
 have l1:IntKind.i64.wrap ((d.last:Int) + 1) = la:=by
  have:=f.last2
  rw [← hla]
  simp [IntKind.wrap,IntKind.bits,IntKind.signed]; omega
 have HLA:=Lib.hid hla
 clear hla
 have HF:=Lib.hid f
 have HHH:=Lib.hid (And.intro hfx (And.intro hno2 (And.intro hl2 (And.intro hef (And.intro hn (And.intro hN (And.intro hll (And.intro slc hlen))))))))
 obtain ⟨nE,hnE⟩ : ∃ n,(A0 ++ C0).length = n:=⟨_,rfl⟩
 obtain ⟨nD,hnD⟩ : ∃ n,d.E.length = n:=⟨_,rfl⟩
 have HNE:=Lib.hid (And.intro hnE hnD)
 obtain ⟨ix,hix⟩ : ∃ i,A0.length = i:=⟨_,rfl⟩
 have zr:=fun {R2:List Thing} (W:World) (HW:Own V W (d.things S ++ R2)) => zremove_c HW slc (by omega) f.eng hN f.engf eE hfy hym hix
 rw [hbut] at zr
 rw [hix] at zs
 have i0:¬ (ix:Int) < 0:=by omega
 have i1:(0:Int) ≤ (ix:Int):=by omega
 have i2:decide ((ix:Int) < 0) = false:=decide_eq_false (by omega)
 clear hbut hyk hfy hym hix hA hy
 clear H f hfx htb sk so slc hlen hno2 hl2 hef hidx ha ho hm hn hN hll hW0 hB0 hnE hnD n4 eE
 have HENT:=Lib.hid entC
 clear entC
 obtain ⟨T,ev0,hev0⟩:=hev0
 have HEV:=Lib.hid hev0
 clear hev0
 obtain ⟨tb,key,oth,ln,pr,bk,args,idle,hard,ck,tl⟩:=x
 show Calls Tryz.prog 10 #[.pointer (some ⟨S,0,none⟩),.agg #[.int .i64 tb,.string key,.string oth,.int .i64 ln,.int .i64 pr,.int .i64 bk,.slice A n c,.int .i64 idle,.int .i64 hard,.int .u64 ck,.bool tl],.int .i64 now] w _
 have zm:Calls Tryz.prog 9 #[.pointer (some ⟨S,0,none⟩),.agg #[.int .i64 tb,.string key,.string oth,.int .i64 ln,.int .i64 pr,.int .i64 bk,.slice A n c,.int .i64 idle,.int .i64 hard,.int .u64 ck,.bool tl]] W0 fun e w' => e = .returned (.int .i64 0) ∧ Wider W0 w':=zm
 have zs:∀ W,Wider W0 W → Calls Tryz.prog 31 #[.pointer (some ⟨S,0,none⟩),.agg #[.int .i64 tb,.string key,.string oth,.int .i64 ln,.int .i64 pr,.int .i64 bk,.slice A n c,.int .i64 idle,.int .i64 hard,.int .u64 ck,.bool tl]] W fun e w' => e = .returned (.int .i64 ((ix:Int))) ∧ Wider W w':=zs
 have HZO:=Lib.hid zo
 have e0:∀ W,Wider W0 W → Ent11 W B0 tb key oth ln pr bk A n c idle hard ck tl:=fun W g => by
  have K:=H0.quiet g
  have e:=fun i v hv => HENT.out _ W K (List.mem_append_right _ (List.mem_append_right _ (.head _))) i v hv
  exact ⟨e 0 _ rfl,e 1 _ rfl,e 2 _ rfl,e 3 _ rfl,e 4 _ rfl,e 5 _ rfl,e 6 _ rfl,e 7 _ rfl,e 8 _ rfl,e 9 _ rfl,e 10 _ rfl⟩
 have HE0:=Lib.hid e0
 obtain ⟨x0,x1,x2,x3,x4,x5,x6,x7,x8,x9,x10⟩:=e0 W0 (Wider.refl _)
 clear zo e0
 have HW1:=HW0.out.1
 have HB1:=HW0.out.2
 go_enter Tryz.func10,Tryz.ntmps10
 go_upto_region 1 with (fail)
 try rw [HW1]
 try rw [HB1]
 clear HW1 HB1
 go_upto_region 5 with (first
  | (go_at_call 9; ((with_reducible refine zm.mono ?_); rintro e w1 ⟨rfl,g1⟩; obtain ⟨y0,y1,y2,y3,y4,y5,y6,y7,y8,y9,y10⟩:=HE0.out w1 g1; clear zm))
  | (go_at_call 31; ((with_reducible refine (zs _ g1).mono ?_); rintro e w2 ⟨rfl,g2⟩; clear zs)))
 have H2:=(H0.quiet g1).quiet g2
 go_quiet (fail)
 have K2:=H2.quiet ((Wider.refl _).drewN nq)
 clear H2
 go_upto_region 9 with (first
  | (go_at_call 32; ((with_reducible refine (zr _ K2).mono ?_); rintro e W3 ⟨rfl,hv3,Es3,K,he3⟩; clear zr K2)))
 have HE3:=Lib.hid he3
 obtain ⟨A1,cp,ehv⟩:=ownsRow_shape K.drop.second
 have Kc:Own V W3 (blkT S #[.int .i64 d.t.id,.int .u8 d.t.kind,d.kv,.int .i64 d.t.cap,.int .i64 d.t.miss,.int .i64 (d.ws.sum:Int),d.ev,.slice A1 nE cp,.int .i64 (d.last:Int)] 72 :: rowK d :: rowT 77 14 (.slice A1 nE cp) nE (cellsHs (A0 ++ C0)) :: (Es3 ++ (Xs ++ (blkT B0 #[.int .i64 tb,.string key,.string oth,.int .i64 ln,.int .i64 pr,.int .i64 bk,.slice A n c,.int .i64 idle,.int .i64 hard,.int .u64 ck,.bool tl] 26 :: R)))):=by
  have q:Own V W3 (blkT S #[.int .i64 d.t.id,.int .u8 d.t.kind,d.kv,.int .i64 d.t.cap,.int .i64 d.t.miss,.int .i64 (d.ws.sum:Int),d.ev,hv3,.int .i64 (d.last:Int)] 72 :: rowK d :: rowT 77 14 hv3 (A0 ++ C0).length (cellsHs (A0 ++ C0)) :: (Es3 ++ (Xs ++ (blkT B0 #[.int .i64 tb,.string key,.string oth,.int .i64 ln,.int .i64 pr,.int .i64 bk,.slice A n c,.int .i64 idle,.int .i64 hard,.int .u64 ck,.bool tl] 26 :: R)))):=K
  have ehv2:hv3 = .slice A1 (A0 ++ C0).length cp:=ehv
  rw [ehv2,HNE.out.1] at q
  exact q
 clear he3 ehv K
 have c8:=blk_cell Kc.head 8 (v:=.int .i64 (d.last:Int)) rfl
 have f8:=blk_free Kc.head 8
 have Kd:=Kc.store 8 (.int .i64 la)
 go_upto_region 11 with (first
  | (go_at_call 33; ((with_reducible refine (zt _).mono ?_); rintro e w5 ⟨rfl,g5⟩; have K5:=Kd.quiet g5; clear zt)))
 have K5c:Own V w5 (blkT S #[.int .i64 d.t.id,.int .u8 d.t.kind,d.kv,.int .i64 d.t.cap,.int .i64 d.t.miss,.int .i64 (d.ws.sum:Int),d.ev,.slice A1 nE cp,.int .i64 la] 72 :: rowK d :: rowT 77 14 (.slice A1 nE cp) nE (cellsHs (A0 ++ C0)) :: (Es3 ++ (Xs ++ (blkT B0 #[.int .i64 tb,.string key,.string oth,.int .i64 ln,.int .i64 pr,.int .i64 bk,.slice A n c,.int .i64 idle,.int .i64 hard,.int .u64 ck,.bool tl] 26 :: R)))):=K5
 have HH5:=Lib.hid (K5c.rot3.quiet (Wider.refl _).drew)
 obtain ⟨i0,hi,hz0,hz1,hz2⟩:=info_parts zinfoH
 have S1:Hid (nE + 1 ≤ maxLen):=Lib.hid (by have:=HHH.out.2.2.2.2.2.2.1; rw [HNE.out.1] at this; unfold maxLen; omega)
 have S2:Hid ((nE + 1) * 144 ≤ 140737488355328):=Lib.hid (by have:=HHH.out.2.2.2.2.2.2.1; rw [HNE.out.1] at this; omega)
 have OWN:Hid (∀ (R':List Thing) (W:World),Own V W R' → Own V W R → Calls Tryz.prog 34 #[.agg #[.int .i64 tb,.string key,.string oth,.int .i64 ln,.int .i64 pr,.int .i64 bk,.slice A n c,.int .i64 idle,.int .i64 hard,.int .u64 ck,.bool tl]] W fun e w' => ∃ B c',e = .returned (.agg #[.int .i64 tb,.string key,.string oth,.int .i64 ln,.int .i64 pr,.int .i64 bk,.slice B n c',.int .i64 idle,.int .i64 hard,.int .u64 ck,.bool tl]) ∧ args.length = n ∧ Own V w' (rowT 24 1 (.slice B n c') args.length (u64s args) :: R')):=Lib.hid HZO.out
 obtain ⟨tt,htt⟩ : ∃ tt,clampT now = tt:=⟨_,rfl⟩
 have HTT:=Lib.hid htt
 try rw [htt]
 obtain ⟨CE,hCE⟩ : ∃ CE,cellsHs (A0 ++ C0) = CE:=⟨_,rfl⟩
 have HCE:=Lib.hid hCE
 rw [hCE] at HH5
 clear K5 K5c Kd Kc htt hCE HZO c8 f8
 refine' leaf_key6 (C:=fun (W:World) (X:Option Addr) (c9:Nat) (BI:Option Addr) (cI b1:Nat) => Own V W (blkT S #[.int .i64 d.t.id,.int .u8 d.t.kind,d.kv,.int .i64 d.t.cap,.int .i64 d.t.miss,.int .i64 (d.ws.sum:Int),d.ev,.slice X (nE + 1) c9,.int .i64 la] 72 :: rowT 77 14 (.slice X (nE + 1) c9) (nE + 1) (CE ++ [.int .i64 tb,.string key,.string oth,.int .i64 ln,.int .i64 pr,.int .i64 bk,.slice BI n cI,.int .i64 idle,.int .i64 hard,.int .u64 ck,.bool tl,.int .i64 la,.int .i64 tt,.int .i64 tt]) :: rowT 24 1 (.slice BI n cI) args.length (u64s args) :: rowK d :: (Es3 ++ (Xs ++ (blkT B0 #[.int .i64 tb,.string key,.string oth,.int .i64 ln,.int .i64 pr,.int .i64 bk,.slice A n c,.int .i64 idle,.int .i64 hard,.int .u64 ck,.bool tl] 26 :: R))))) ?key ?lea
 case lea =>
  intro KEY
  have H5:=HH5.out
  have zo:=fun (R':List Thing) (W:World) (HW:Own V W (blkT S #[.int .i64 d.t.id,.int .u8 d.t.kind,d.kv,.int .i64 d.t.cap,.int .i64 d.t.miss,.int .i64 (d.ws.sum:Int),d.ev,.slice A1 nE cp,.int .i64 la] 72 :: rowK d :: R')) => HW
  have c7:=blk_cell H5.second 7 (v:=.slice A1 nE cp) rfl
  have c8:=blk_cell H5.second 8 (v:=.int .i64 la) rfl
  have rR:Own V _ R:=(own_rest (own_rest (H5.drop.drop.drop))).drop
  have e:=fun i v hv => HENT.out _ _ H5 (.tail _ (.tail _ (.tail _ (List.mem_append_right _ (List.mem_append_right _ (.head _)))))) i v hv
  have b0:=e 0 _ rfl
  have b1:=e 1 _ rfl
  have b2:=e 2 _ rfl
  have b3:=e 3 _ rfl
  have b4:=e 4 _ rfl
  have b5:=e 5 _ rfl
  have b6:=e 6 _ rfl
  have b7:=e 7 _ rfl
  have b8:=e 8 _ rfl
  have b9:=e 9 _ rfl
  have b10:=e 10 _ rfl
  have zo:=OWN.out _ _ H5 rR
  clear e rR
  go_region_law (first
   | (go_simp; go_at_call 34; ((with_reducible refine zo.mono ?_); rintro e w6 ⟨BI,cI,rfl,_,H6⟩; have d7:=blk_cell H6.drop.second 7 (v:=.slice A1 nE cp) rfl; have d8:=blk_cell H6.drop.second 8 (v:=.int .i64 la) rfl; have H7:=H6.swap.quiet ((Wider.refl w6).alloc (.cells #[.int .i64 tb,.string key,.string oth,.int .i64 ln,.int .i64 pr,.int .i64 bk,.slice BI n cI,.int .i64 idle,.int .i64 hard,.int .u64 ck,.bool tl,.int .i64 la,.int .i64 tt,.int .i64 tt] 77)); have e7:=wkeep ((Wider.refl w6).alloc (.cells #[.int .i64 tb,.string key,.string oth,.int .i64 ln,.int .i64 pr,.int .i64 bk,.slice BI n cI,.int .i64 idle,.int .i64 hard,.int .u64 ck,.bool tl,.int .i64 la,.int .i64 tt,.int .i64 tt] 77)) d7; have cl:=held_lies w6 #[.int .i64 tb,.string key,.string oth,.int .i64 ln,.int .i64 pr,.int .i64 bk,.slice BI n cI,.int .i64 idle,.int .i64 hard,.int .u64 ck,.bool tl,.int .i64 la,.int .i64 tt,.int .i64 tt]; have ONE:=newH_one tb key oth ln pr bk BI n cI idle hard ck tl la tt; clear zo H6 H5 c7 c8 b0 b1 b2 b3 b4 b5 b6 b7 b8 b9 b10))
   | (refine step_append_thing rfl (.tmp 51) (.tmp 61) 70 rfl 77 i0 (.agg #[.int .i64 0,.string ⟨#[]⟩,.string ⟨#[]⟩,.int .i64 0,.int .i64 0,.int .i64 0,.slice none 0 0,.int .i64 0,.int .i64 0,.int .u64 0,.bool false,.int .i64 0,.int .i64 0,.int .i64 0]) 14 144 Tryz.underlying70 hi hz0 hz1 hz2 rfl (by decide) (.slice A1 nE cp) nE CE (by simp [Act.eval]) H7 (some ⟨w6.heap.size,0,none⟩) 1 1 [.int .i64 tb,.string key,.string oth,.int .i64 ln,.int .i64 pr,.int .i64 bk,.slice BI n cI,.int .i64 idle,.int .i64 hard,.int .u64 ck,.bool tl,.int .i64 la,.int .i64 tt,.int .i64 tt] (by simp [Act.eval]) rfl (fun e => by cases e) cl ONE S1.out S2.out rfl rfl ?_; intro X c9 w8 H8; have H9:=H8.rot3; have f7:=blk_free H9.head 7; have k7:=blk_cell H9.head 7 (v:=.slice A1 nE cp) rfl; have H10:=H9.store 7 (.slice X (nE + 1) c9); clear H8 H9 H7 cl ONE))
  all_goals
   obtain ⟨W9,hW9⟩ : ∃ W,w8.setCell ⟨S,7,none⟩ (.slice X (nE + 1) c9) = W:=⟨_,rfl⟩
   rw [hW9] at H10
   try rw [hW9]
   obtain ⟨bb,hbb⟩ : ∃ b,w6.heap.size = b:=⟨_,rfl⟩
   try rw [hbb]
   exact KEY.out _ _ _ _ _ bb H10
 case key =>
  intro W X c9 BI cI b1 K
  have he4:EngA d.t.kind d.ws d.ev Es3 (argA ⟨tb,key,oth,ln,pr,bk,args,idle,hard,ck,tl⟩ (.slice BI n cI) :: Xs) ((A0 ++ C0).map HeldP.kp) s.n:=HE3.out.more (fun t h => .tail _ h)
  have hput:=engA_put he4 HHH.out.2.2.2.2.2.1 HHH.out.2.2.2.1 HHH.out.1 HHH.out.2.1 HHH.out.2.2.1 (d.last + 1) (kk:=la) HLA.out
  have c6:=blk_cell K.head 6 (v:=d.ev) rfl
  have c8:=blk_cell K.head 8 (v:=.int .i64 la) rfl
  have e:=fun i v hv => HENT.out _ _ K (.tail _ (.tail _ (.tail _ (.tail _ (List.mem_append_right _ (List.mem_append_right _ (.head _))))))) i v hv
  have b0:=e 0 _ rfl
  have b1:=e 1 _ rfl
  have b2:=e 2 _ rfl
  have b3:=e 3 _ rfl
  have b4:=e 4 _ rfl
  have b5:=e 5 _ rfl
  have b6:=e 6 _ rfl
  have b7:=e 7 _ rfl
  have b8:=e 8 _ rfl
  have b9:=e 9 _ rfl
  have b10:=e 10 _ rfl
  have K2:=(K.perm (perm_mid [_,_,_,_] Es3 _)).quiet (Wider.refl W).drew
  clear e he4 K HH5
  rcases hput with ⟨p,hev,hput⟩ | ⟨Z,hev,hput⟩ | ⟨Z,hev,hput⟩ | ⟨Z,D,nw,cw,hev,hput⟩
  · have zp:∀ (R2:List Thing) (W:World),Own V W (Es3 ++ R2) → Calls Tryz.prog 81 #[.agg #[.pointer (some p)],.agg #[.int .i64 tb,.string key,.string oth,.int .i64 ln,.int .i64 pr,.int .i64 bk,.slice A n c,.int .i64 idle,.int .i64 hard,.int .u64 ck,.bool tl],.int .i64 la] W fun e w2 => e = .returned (.tuple #[]) ∧ ∃ Es2,Own V w2 (Es2 ++ R2) ∧ EngA d.t.kind d.ws d.ev Es2 (argA ⟨tb,key,oth,ln,pr,bk,args,idle,hard,ck,tl⟩ (.slice BI n cI) :: Xs) ((A0 ++ C0).map HeldP.kp ++ [(⟨tb,key,oth,ln,pr,bk,args,idle,hard,ck,tl⟩,d.last + 1)]) (s.n + 1):=fun R2 W HW => hput HW A n c
    rw [hev] at c6
    clear hput hev
    have hmet : ∀ w, (method 357 102 (.agg #[.pointer (some p)]) "turnout/table.put").run Tryz.prog w = .ok (81, .agg #[.pointer (some p)]) w := fun w => by kernel_rfl
    go_upto_region 12 with (fail)
    go_still_tail 11,(by kernel_rfl)
    change wpList _ _ _ _ _ (World.drew _)
    go_wp2_with (first
     | (go_at_call 81; ((with_reducible refine (zp _ _ K2).mono ?_); rintro e w9 ⟨rfl,Es4,K4,h4⟩; have HK4:=Lib.hid (And.intro K4 h4); clear zp K2 K4 h4)))
    go_ret
    refine ⟨rfl,BI,cI,.slice X (nE + 1) c9,Es4,HHH.out.2.2.2.2.1,sto_put HK4.out.1 HLA.out HCE.out HNE.out.1 HTT.out,?_⟩
    have e:=HK4.out.2
    rw [List.map_append]
    exact e
  · have zp:∀ (R2:List Thing) (W:World),Own V W (Es3 ++ R2) → Calls Tryz.prog 103 #[.agg #[.pointer (some ⟨Z,0,none⟩)],.agg #[.int .i64 tb,.string key,.string oth,.int .i64 ln,.int .i64 pr,.int .i64 bk,.slice A n c,.int .i64 idle,.int .i64 hard,.int .u64 ck,.bool tl],.int .i64 la] W fun e w2 => e = .returned (.tuple #[]) ∧ ∃ Es2,Own V w2 (Es2 ++ R2) ∧ EngA d.t.kind d.ws d.ev Es2 (argA ⟨tb,key,oth,ln,pr,bk,args,idle,hard,ck,tl⟩ (.slice BI n cI) :: Xs) ((A0 ++ C0).map HeldP.kp ++ [(⟨tb,key,oth,ln,pr,bk,args,idle,hard,ck,tl⟩,d.last + 1)]) (s.n + 1):=fun R2 W HW => hput HW A n c
    rw [hev] at c6
    clear hput hev
    have hmet : ∀ w, (method 357 106 (.agg #[.pointer (some ⟨Z, 0, none⟩)]) "turnout/table.put").run Tryz.prog w = .ok (103, .agg #[.pointer (some ⟨Z, 0, none⟩)]) w := fun w => by kernel_rfl
    go_upto_region 12 with (fail)
    go_still_tail 11,(by kernel_rfl)
    change wpList _ _ _ _ _ (World.drew _)
    go_wp2_with (first
     | (go_at_call 103; ((with_reducible refine (zp _ _ K2).mono ?_); rintro e w9 ⟨rfl,Es4,K4,h4⟩; have HK4:=Lib.hid (And.intro K4 h4); clear zp K2 K4 h4)))
    go_ret
    refine ⟨rfl,BI,cI,.slice X (nE + 1) c9,Es4,HHH.out.2.2.2.2.1,sto_put HK4.out.1 HLA.out HCE.out HNE.out.1 HTT.out,?_⟩
    have e:=HK4.out.2
    rw [List.map_append]
    exact e
  · have zp:∀ (R2:List Thing) (W:World),Own V W (Es3 ++ R2) → Calls Tryz.prog 130 #[.agg #[.pointer (some ⟨Z,0,none⟩)],.agg #[.int .i64 tb,.string key,.string oth,.int .i64 ln,.int .i64 pr,.int .i64 bk,.slice A n c,.int .i64 idle,.int .i64 hard,.int .u64 ck,.bool tl],.int .i64 la] W fun e w2 => e = .returned (.tuple #[]) ∧ ∃ Es2,Own V w2 (Es2 ++ R2) ∧ EngA d.t.kind d.ws d.ev Es2 (argA ⟨tb,key,oth,ln,pr,bk,args,idle,hard,ck,tl⟩ (.slice BI n cI) :: Xs) ((A0 ++ C0).map HeldP.kp ++ [(⟨tb,key,oth,ln,pr,bk,args,idle,hard,ck,tl⟩,d.last + 1)]) (s.n + 1):=fun R2 W HW => hput HW A n c
    rw [hev] at c6
    clear hput hev
    have hmet : ∀ w, (method 357 110 (.agg #[.pointer (some ⟨Z, 0, none⟩)]) "turnout/table.put").run Tryz.prog w = .ok (130, .agg #[.pointer (some ⟨Z, 0, none⟩)]) w := fun w => by kernel_rfl
    go_upto_region 12 with (fail)
    go_still_tail 11,(by kernel_rfl)
    change wpList _ _ _ _ _ (World.drew _)
    go_wp2_with (first
     | (go_at_call 130; ((with_reducible refine (zp _ _ K2).mono ?_); rintro e w9 ⟨rfl,Es4,K4,h4⟩; have HK4:=Lib.hid (And.intro K4 h4); clear zp K2 K4 h4)))
    go_ret
    refine ⟨rfl,BI,cI,.slice X (nE + 1) c9,Es4,HHH.out.2.2.2.2.1,sto_put HK4.out.1 HLA.out HCE.out HNE.out.1 HTT.out,?_⟩
    have e:=HK4.out.2
    rw [List.map_append]
    exact e
  · have zp:∀ (R2:List Thing) (W:World),Own V W (Es3 ++ R2) → Calls Tryz.prog 184 #[.agg #[.pointer (some ⟨Z,0,none⟩),.slice D nw cw],.agg #[.int .i64 tb,.string key,.string oth,.int .i64 ln,.int .i64 pr,.int .i64 bk,.slice A n c,.int .i64 idle,.int .i64 hard,.int .u64 ck,.bool tl],.int .i64 la] W fun e w2 => e = .returned (.tuple #[]) ∧ ∃ Es2,Own V w2 (Es2 ++ R2) ∧ EngA d.t.kind d.ws d.ev Es2 (argA ⟨tb,key,oth,ln,pr,bk,args,idle,hard,ck,tl⟩ (.slice BI n cI) :: Xs) ((A0 ++ C0).map HeldP.kp ++ [(⟨tb,key,oth,ln,pr,bk,args,idle,hard,ck,tl⟩,d.last + 1)]) (s.n + 1):=fun R2 W HW => hput HW A n c
    rw [hev] at c6
    clear hput hev
    have hmet : ∀ w, (method 357 115 (.agg #[.pointer (some ⟨Z, 0, none⟩), .slice D nw cw]) "turnout/table.put").run Tryz.prog w = .ok (184, .agg #[.pointer (some ⟨Z, 0, none⟩), .slice D nw cw]) w := fun w => by kernel_rfl
    go_upto_region 12 with (fail)
    go_still_tail 11,(by kernel_rfl)
    change wpList _ _ _ _ _ (World.drew _)
    go_wp2_with (first
     | (go_at_call 184; ((with_reducible refine (zp _ _ K2).mono ?_); rintro e w9 ⟨rfl,Es4,K4,h4⟩; have HK4:=Lib.hid (And.intro K4 h4); clear zp K2 K4 h4)))
    go_ret
    refine ⟨rfl,BI,cI,.slice X (nE + 1) c9,Es4,HHH.out.2.2.2.2.1,sto_put HK4.out.1 HLA.out HCE.out HNE.out.1 HTT.out,?_⟩
    have e:=HK4.out.2
    rw [List.map_append]
    exact e
end Go.Proofs.YtbnpelciceblfaaGreat
