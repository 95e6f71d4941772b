/- USetH USetI USetJ USetL UUse -/
import Derived.Test.YtbnpelciceblfaaGreatQ14
namespace Go.Proofs.YtbnpelciceblfaaGreat
set_option linter.unusedVariables false
open Go.ChangeShapes Go.WideShapes Go.ChangeAt Go.RowKit Go.Joins Go.Maps Go.ChangeMaps
set_option maxHeartbeats 64000000
theorem Own.dropL {V w:World} {R:List Thing} : ∀ {X:List Thing},Own V w (X ++ R) → Own V w R
 | [],h => h
 | _ :: X,h => Own.dropL (X:=X) h.drop
def delL (L:List ItN) (k m:ByteArray) (q:Int):List ItN:=butL L ⟨k,m,q,0⟩
structure DelN (g:GrpN) (k:ByteArray) (q:Int) (t:GrpN):Prop where
 good:GoodG t
 b:t.b = g.b
 mask:t.mask = g.mask
 flat:t.flat.Perm (butN g.flat k q)
theorem DelN.none_ {g t:GrpN} {k:ByteArray} {q:Int} (h:DelN g k q t):t.rows = [] ↔ butN g.flat k q = []:=by
 constructor
 · intro e
   have f:=h.flat.length_eq
   unfold GrpN.flat at f
   rw [e] at f
   exact List.eq_nil_of_length_eq_zero f.symm
 · intro e
   have f:=h.flat.length_eq
   rw [e] at f
   cases c:t.rows with
   | nil => rfl
   | cons r l => exact absurd (List.eq_nil_of_length_eq_zero f) (flat_ne h.good (by rw [c]; simp))
theorem ugdel_g {V w:World} {R:List Thing} {g:GrpN} (H:Own V w (g.things ++ R)) (hg:GoodG g) {k:ByteArray} (hs:k.size < 1000000) (hl:g.flat.length < 999999) {q:Int} {A B:List PlN} (r:RankN (getR g.rows k) q A B true) {b:Nat} (hb:g.b = b) :
 Calls Tryz.prog 140 #[.pointer (some ⟨b,0,none⟩),.string k,.int .i64 q] w fun e w' => ∃ t,e = .returned (.tuple #[]) ∧ DelN g k q t ∧ Own V w' (t.things ++ R):=by
 subst hb
 have l1:=get_len hg k
 have l2:=rows_len hg
 have l3:=hg.prs.length_eq
 rw [List.length_map] at l3
 obtain ⟨X,Y0,hXY,hX,hY⟩:=lower_ex hg.asc q
 obtain ⟨p0,hp0,e⟩ : ∃ p0:PlN,p0.x.prio = q ∧ getR g.rows k = A ++ p0 :: B:=by
  rcases r.perm with ⟨_,p0,h1,h2⟩ | ⟨h,_⟩
  · exact ⟨p0,h1,h2⟩
  · cases h
 have hq:q ∈ g.pr:=hg.prs.mem_iff.2 (List.mem_map.2 ⟨p0,mem_of_get hg (k:=k) (by rw [e]; exact List.mem_append_right _ (.head _)),hp0⟩)
 obtain ⟨Y,rfl⟩ : ∃ Y,Y0 = q :: Y:=by
  rw [hXY] at hq
  rcases List.mem_append.1 hq with hq | hq
  · have:=hX q hq; omega
  · have a:=hg.asc
    rw [hXY] at a
    have a2:=(List.pairwise_append.1 a).2.1
    cases Y0 with
    | nil => cases hq
    | cons y Y =>
      refine ⟨Y,?_⟩
      have y1:=hY y (.head _)
      rcases List.mem_cons.1 hq with rfl | hq
      · rfl
      · have:=(List.pairwise_cons.1 a2).1 q hq
        have:y = q:=by omega
        rw [this]
 refine (ugdel_1 H hg hs (by omega) (by omega) (by omega) r hXY hX (fun y hy => hY y (.tail _ hy))).mono ?_
 rintro e2 w' ⟨v,u,rfl,H2⟩
 obtain ⟨a1,a2,_⟩:=hg.less v u r hXY
 exact ⟨_,rfl,⟨a1,rfl,rfl,a2⟩,H2⟩
theorem rank_same {s:SetN} {L:List ItN} {N:Nat} (hl:SetL s L N) {g:GrpN} (hg:g ∈ s.gs) {k:ByteArray} {q:Int} {A B:List PlN} {had:Bool} (r:RankN (getR g.rows k) q A B had):had = true ↔ ∃ y ∈ L,SameN y ⟨k,g.mask,q,0⟩:=by
 obtain ⟨gg,rg⟩:=hl.good.good g hg
 constructor
 · rintro rfl
   rcases r.perm with ⟨_,p0,h1,h2⟩ | ⟨h,_⟩
   · have hp:p0 ∈ getR g.rows k:=by rw [h2]; exact List.mem_append_right _ (.head _)
     obtain ⟨o1,o2⟩:=gg.of_get hp
     exact ⟨p0.x,(umem_all hl.all).2 ⟨p0,List.mem_flatMap.2 ⟨g,hg,mem_of_get gg hp⟩,rfl⟩,o1,o2,h1⟩
   · cases h
 · rintro ⟨y,hy,e1,e2,e3⟩
   obtain ⟨p,hp,rfl⟩:=(umem_all hl.all).1 hy
   obtain ⟨z,hz,hpz⟩:=List.mem_flatMap.1 hp
   obtain ⟨m1,m2⟩:=(hl.good.good z hz).1.mem_get hpz
   have ez:z = g:=by
    by_cases c:z = g
    · exact c
    · exfalso
      have mm:=hl.good.masks
      obtain ⟨i,hi⟩:=List.getElem?_of_mem hz
      obtain ⟨j,hj⟩:=List.getElem?_of_mem hg
      obtain ⟨hi1,hi2⟩:=List.getElem?_eq_some_iff.1 hi
      obtain ⟨hj1,hj2⟩:=List.getElem?_eq_some_iff.1 hj
      have pw:=List.pairwise_iff_getElem.1 mm
      have em:z.mask = g.mask:=m2.symm.trans e2
      rcases Nat.lt_trichotomy i j with l | l | l
      · have:=pw i j hi1 hj1 l
        rw [hi2,hj2] at this; exact this em
      · subst l; rw [hi2] at hj2; exact c hj2
      · have:=pw j i hj1 hi1 l
        rw [hi2,hj2] at this; exact this em.symm
   subst ez
   have e1':p.x.key = k:=e1
   rw [e1'] at m1
   rcases r.perm with ⟨h,_⟩ | ⟨_,_,h3⟩
   · exact h
   · exact absurd e3 (h3 p m1)
theorem del_flat {s:SetN} {L:List ItN} {N:Nat} (hl:SetL s L N) {A B:List GrpN} {g:GrpN} (e:s.gs = A ++ g :: B) (k:ByteArray) (q:Int):(butP (flatS s.gs) ⟨k,g.mask,q,0⟩).Perm (butN g.flat k q ++ flatS (A ++ B)):=by
 have hk:=hl.good.masks
 rw [e] at hk ⊢
 exact butP_mid (x:=⟨k,g.mask,q,0⟩) (by rw [← e]; exact hl.good.good) (masks_less hk).2 (hl.good.good g (by rw [e]; exact List.mem_append_right _ (.head _))).1 rfl
theorem del_good {s:SetN} {L:List ItN} {N:Nat} (hl:SetL s L N) {k m:ByteArray} {q:Int} {T:List GrpN} {gm:Option Nat} {u:Value} {n:Nat} (hg:∀ y ∈ T,GoodG y ∧ y.rows ≠ []) (hm:MasksS T) (ho:OrdS T) (hgm:gm = none → T = []) (hf:(flatS T).Perm (butP (flatS s.gs) ⟨k,m,q,0⟩)) (hn:n = (flatS T).length) :
 SetL ⟨s.A,gm,u,T,n,s.last⟩ (delL L k m q) N:=by
 have h:=hl.good
 refine ⟨⟨hg,hm,ho,hn,pairwise_ne_of hf.symm (h.places.filter _),fun p hp => h.last p (List.mem_filter.1 (hf.mem_iff.1 hp)).1,fun p hp => h.form p (List.mem_filter.1 (hf.mem_iff.1 hp)).1,hgm⟩,all_del (t:=⟨s.A,gm,u,T,n,s.last⟩) hl.all hf,fun y hy => hl.small y (List.mem_filter.1 hy).1,?_,hl.last⟩
 have:=List.length_filter_le (fun y => decide (¬ SameN y ⟨k,m,q,0⟩)) L
 have:=hl.len
 show (butL L _).length ≤ N
 unfold butL; omega
set_option maxRecDepth 20000 in
theorem tdel_no {V w:World} {R:List Thing} {s:SetN} {L:List ItN} {N:Nat} (H:Own V w (s.things ++ R)) (hl:SetL s L N) (hN:N < 99990) {k m:ByteArray} {q:Int} (hk:k.size < 1000000) (hm:m.size < 1000000) (hno:∀ y ∈ L,¬ SameN y ⟨k,m,q,0⟩) :
 Calls Tryz.prog 132 #[ptrU s.A,.string k,.string m,.int .i64 q] w fun e w' => e = .returned (.bool false) ∧ Own V w' (s.things ++ R):=by
 have c0:=blk_cell H.head 0 (v:=.map s.gm) rfl
 have HH:=Lib.hid H
 by_cases c:∃ g ∈ s.gs,g.mask = m
 · obtain ⟨g,hg,rfl⟩:=c
   obtain ⟨M,hM⟩:=gm_some hl.good hg
   have gg:=(hl.good.good g hg).1
   obtain ⟨A,B,had,r⟩:=rank_ex (gg.desc_get k) q
   have hd:had = false:=by
    cases had with
    | false => rfl
    | true => obtain ⟨y,hy,e⟩:=(rank_same hl hg r).1 rfl; exact absurd e (hno y hy)
   subst hd
   have hm3:UMapAt w M (entG s.gs):=by have q:=H.holds (gmT s.gm (entG s.gs)) (.tail _ (.tail _ (.head _))); rw [hM] at q; exact q
   have lk:=look_u (t:=131) (e:=199) Tryz.underlying131 (Tryz.zeroValue199 w) hm3 hm (.inl (List.mem_map.2 ⟨g,hg,rfl⟩ : (g.mask,ptrU g.b) ∈ entG s.gs))
   have ga:GrpAt w g:=grps_at (fun t ht => H.holds t (.tail _ (.tail _ (.tail _ (List.mem_append_left _ ht))))) hg
   have zh:=uhas_c ga gg.keys hk (by have:=get_len gg k; have:=grp_len hg; have:=flat_len hl; omega) r
   obtain ⟨S,hS⟩ : ∃ S,s.A = S:=⟨_,rfl⟩
   obtain ⟨gb,hgb⟩ : ∃ gb,g.b = gb:=⟨_,rfl⟩
   obtain ⟨mask,hmk⟩ : ∃ mask,g.mask = mask:=⟨_,rfl⟩
   rw [hM,hS] at c0
   rw [hgb,hmk] at lk
   rw [hgb] at zh
   rw [hS,hmk]
   unfold ptrU at lk zh
   clear H hl hN hm hno hg hM gg r hm3 ga hS hgb hmk
   show Calls Tryz.prog 132 #[.pointer (some ⟨S,0,none⟩),.string k,.string mask,.int .i64 q] w _
   go_enter Tryz.func132,Tryz.ntmps132
   go_wp2_with (first
    | (go_at_call 138; ((with_reducible refine zh.mono ?_); rintro e w1 ⟨rfl,g1⟩; have H1:=HH.out.quiet g1; clear HH zh)))
   go_ret
   exact ⟨rfl,H1⟩
 · have lk:(Instr.lookup 131 (.map s.gm) (.string m) false).run Tryz.prog w = .ok (.pointer none) w:=by
    cases q:s.gm with
    | none => exact look_nil_u (t:=131) (e:=199) Tryz.underlying131 (Tryz.zeroValue199 w) hm
    | some M =>
      have hm3:UMapAt w M (entG s.gs):=by have q2:=H.holds (gmT s.gm (entG s.gs)) (.tail _ (.tail _ (.head _))); rw [q] at q2; exact q2
      exact look_u (t:=131) (e:=199) Tryz.underlying131 (Tryz.zeroValue199 w) hm3 hm (.inr ⟨fun v hv => by
       obtain ⟨g,hg,e⟩:=List.mem_map.1 hv
       exact c ⟨g,hg,by injection e⟩,rfl⟩)
   have zh:=uhas_nil k q
   obtain ⟨S,hS⟩ : ∃ S,s.A = S:=⟨_,rfl⟩
   obtain ⟨gm,hgm⟩ : ∃ gm,s.gm = gm:=⟨_,rfl⟩
   rw [hS,hgm] at c0
   rw [hgm] at lk
   rw [hS]
   clear H hl hN hm hno c hS hgm hk
   show Calls Tryz.prog 132 #[.pointer (some ⟨S,0,none⟩),.string k,.string m,.int .i64 q] w _
   go_enter Tryz.func132,Tryz.ntmps132
   go_wp2_with (first
    | (go_at_call 138; ((with_reducible refine (zh _).mono ?_); rintro e w1 ⟨rfl,rfl⟩)))
   go_ret
   exact ⟨rfl,HH.out⟩
set_option maxRecDepth 20000 in
theorem tdel_yes {V w:World} {R:List Thing} {s:SetN} {L:List ItN} {N:Nat} (H:Own V w (s.things ++ R)) (hl:SetL s L N) (hN:N < 99990) {k m:ByteArray} {q:Int} (hk:k.size < 1000000) (hm:m.size < 1000000) (hy:∃ y ∈ L,SameN y ⟨k,m,q,0⟩) :
 Calls Tryz.prog 132 #[ptrU s.A,.string k,.string m,.int .i64 q] w fun e w' => ∃ t:SetN,t.A = s.A ∧ e = .returned (.bool true) ∧ Own V w' (t.things ++ R) ∧ SetL t (delL L k m q) N:=by
 obtain ⟨g,hg,rfl⟩ : ∃ g ∈ s.gs,g.mask = m:=by
  obtain ⟨y,hy,e1,e2,e3⟩:=hy
  obtain ⟨p,hp,rfl⟩:=(umem_all hl.all).1 hy
  obtain ⟨z,hz,_,e⟩:=mask_of hl.good.good hp
  exact ⟨z,hz,e.symm.trans e2⟩
 obtain ⟨A,B,eg⟩:=List.append_of_mem hg
 obtain ⟨M,hM⟩:=gm_some hl.good hg
 obtain ⟨gg,rg⟩:=hl.good.good g hg
 obtain ⟨RA,RB,had,r⟩:=rank_ex (gg.desc_get k) q
 obtain rfl:had = true:=(rank_same hl hg r).2 hy
 have hm3:UMapAt w M (entG s.gs):=by have q:=H.holds (gmT s.gm (entG s.gs)) (.tail _ (.tail _ (.head _))); rw [hM] at q; exact q
 have lk:=look_u (t:=131) (e:=199) Tryz.underlying131 (Tryz.zeroValue199 w) hm3 hm (.inl (List.mem_map.2 ⟨g,hg,rfl⟩ : (g.mask,ptrU g.b) ∈ entG s.gs))
 have ga:GrpAt w g:=grps_at (fun t ht => H.holds t (.tail _ (.tail _ (.tail _ (List.mem_append_left _ ht))))) hg
 have zh:=uhas_c ga gg.keys hk (by have:=get_len gg k; have:=grp_len hg; have:=flat_len hl; omega) r
 have zt:=fun (W:World) (HW:Own V W (s.things ++ R)) => utake_old HW hl.good (hl.few (by omega)) (by have:=hl.groups; omega) eg hm
 have zd:=fun {R':List Thing} {b:Nat} (hb:g.b = b) (W:World) (HW:Own V W (g.things ++ R')) => ugdel_g HW gg hk (by have:=grp_len hg; have:=flat_len hl; omega) r hb
 have c0:=blk_cell H.head 0 (v:=.map s.gm) rfl
 have ord0:=hl.good.ord
 have mas0:=hl.good.masks
 rw [eg] at ord0 mas0
 have HO:=Lib.hid (And.intro (ord_less ord0) (masks_less mas0))
 have HE:=Lib.hid (And.intro eg (And.intro hg (And.intro gg (hl.mask hg))))
 have HL:=Lib.hid hl
 have HFL:=Lib.hid (del_flat hl eg k q)
 have hitems:s.items = g.flat.length + (flatS (A ++ B)).length:=by rw [hl.good.items,eg,(flatS_mid A B g).length_eq,List.length_append]
 obtain ⟨i,hi⟩ : ∃ i,s.items = i + 1:=by
  have:=List.length_pos_iff.2 (flat_ne gg rg)
  exact ⟨s.items - 1,by omega⟩
 have hcnt:g.flat.length = (butN g.flat k q).length + 1:=by
  obtain ⟨p0,_,e⟩ : ∃ p0:PlN,p0.x.prio = q ∧ getR g.rows k = RA ++ p0 :: RB:=by
   rcases r.perm with ⟨_,p0,h1,h2⟩ | ⟨h,_⟩
   · exact ⟨p0,h1,h2⟩
   · cases h
  have b1:=(gg.but k q).length_eq
  rw [← r.rest,List.length_append,List.length_append] at b1
  have b2:=(flatR_split gg.keys k).length_eq
  rw [e,List.length_append,List.length_append,List.length_cons] at b2
  show (flatR g.rows).length = _
  omega
 have HI:Hid (i = (butN g.flat k q).length + (flatS (A ++ B)).length):=Lib.hid (by omega)
 have ib:i ≤ 99999:=by have:=len_of hl.good hl.all; have:=hl.len; omega
 have i1:((i + 1:Nat):Int) - 1 = (i:Int):=by omega
 have HB:Hid ((butN g.flat k q).length < 1000000 ∧ (A ++ B).length < 999999 ∧ ∀ y ∈ A ++ B,FewG y):=Lib.hid ⟨by
  have:=grp_len hg; have:=flat_len hl; omega,by
  have a:=hl.groups; rw [eg] at a; simp only [List.length_append,List.length_cons] at a ⊢; omega,fun y hy => hl.few (by omega) y (by
   rw [eg]
   rcases List.mem_append.1 hy with hy | hy
   · exact List.mem_append_left _ hy
   · exact List.mem_append_right _ (.tail _ hy))⟩
 have HN:=Lib.hid hN
 have HH:=Lib.hid H
 have HK:=Lib.hid (And.intro hk hm)
 obtain ⟨S,gm,ov,gs,items,last⟩:=s
 simp only at hM hi c0 zt lk
 subst hM hi
 obtain ⟨gb,hgb⟩ : ∃ gb,g.b = gb:=⟨_,rfl⟩
 obtain ⟨mask,hmk⟩ : ∃ mask,g.mask = mask:=⟨_,rfl⟩
 have zd:=fun {R':List Thing} (W:World) (HW:Own V W (g.things ++ R')) => zd hgb W HW
 rw [hgb,hmk] at lk zt
 rw [hgb] at zh
 rw [hmk]
 unfold ptrU at lk zh zt
 have HM:=Lib.hid (And.intro hmk hgb)
 clear H hl hN hy hk hm hg eg gg rg r hm3 ga hitems hcnt ord0 mas0 hgb hmk
 show Calls Tryz.prog 132 #[.pointer (some ⟨S,0,none⟩),.string k,.string mask,.int .i64 q] w _
 by_cases z:butN g.flat k q = []
 · have HZ:=Lib.hid z
   clear z
   go_enter Tryz.func132,Tryz.ntmps132
   go_wp2_with (first
    | (go_at_call 138; ((with_reducible refine zh.mono ?_); rintro e w1 ⟨rfl,g1⟩; have H1:=HH.out.quiet g1; clear HH zh lk c0 g1))
    | (go_at_call 139; ((with_reducible refine (zt _ H1).mono ?_); rintro e w2 ⟨u,rfl,H2⟩; have H3:=H2.perm (perm_mid _ _ _); clear zt H1 H2))
    | (go_at_call 140; ((with_reducible refine (zd _ H3).mono ?_); rintro e w3 ⟨t,rfl,dn,H4⟩; have DN:=Lib.hid dn; have H5:=H4.perm (perm_mid _ _ _); have H6:Own V w3 (blkT S #[.map (some M),u,.int .i64 ((i + 1:Nat):Int),.int .i64 (last:Int)] 134 :: ordT u (A ++ B) :: umapT M (entG (A ++ B)) :: (grpsT (A ++ B) ++ (t.things ++ R))):=H5; have c2:=blk_cell H6.head 2 (v:=.int .i64 ((i + 1:Nat):Int)) rfl; have f2:=blk_free H6.head 2; have H8:Own V (w3.setCell ⟨S,2,none⟩ (.int .i64 (i:Int))) ((⟨S,some M,u,A ++ B,i,last⟩ : SetN).things ++ (t.things ++ R)):=H6.store 2 (.int .i64 (i:Int)); have mt:∀ y ∈ t.things,y ∈ ((⟨S,some M,u,A ++ B,i,last⟩ : SetN).things ++ (t.things ++ R)):=fun y hy => List.mem_append_right _ (List.mem_append_left _ hy); have tat:=grp_of (fun y hy => H8.holds y (mt y hy)); have d1:=blk_cell tat.blk 1 (v:=.map (some t.M)) rfl; rw [dn.b,HM.out.2] at d1; have zl:=fun ty => len_u (t:=202) (e:=216) Tryz.underlying202 tat.map ty; have e0:(entR t.rows).length = 0:=(by { rw [dn.none_.2 HZ.out]; rfl }); rw [e0] at zl; clear zd H3 H4 H5 H6 dn mt tat)))
   go_ret
   refine ⟨⟨S,some M,u,A ++ B,i,last⟩,rfl,rfl,(H8.perm (perm_mid _ _ _)).dropL,?_⟩
   rw [← HM.out.1]
   exact del_good HL.out (fun y hy => HL.out.good.good y (by
    rw [HE.out.1]
    rcases List.mem_append.1 hy with hy | hy
    · exact List.mem_append_left _ hy
    · exact List.mem_append_right _ (.tail _ hy))) HO.out.2.1 HO.out.1 (fun e => (by cases e)) (by have f:=HFL.out; rw [HZ.out] at f; exact f.symm) (by rw [HI.out,HZ.out]; simp)
 · have HZ:=Lib.hid z
   clear z
   go_enter Tryz.func132,Tryz.ntmps132
   go_wp2_with (first
    | (go_at_call 138; ((with_reducible refine zh.mono ?_); rintro e w1 ⟨rfl,g1⟩; have H1:=HH.out.quiet g1; clear HH zh lk c0 g1))
    | (go_at_call 139; ((with_reducible refine (zt _ H1).mono ?_); rintro e w2 ⟨u,rfl,H2⟩; have H3:=H2.perm (perm_mid _ _ _); clear zt H1 H2))
    | (go_at_call 140; ((with_reducible refine (zd _ H3).mono ?_); rintro e w3 ⟨t,rfl,dn,H4⟩; have DN:=Lib.hid dn; have H5:=H4.perm (perm_mid _ _ _); have H6:Own V w3 (blkT S #[.map (some M),u,.int .i64 ((i + 1:Nat):Int),.int .i64 (last:Int)] 134 :: ordT u (A ++ B) :: umapT M (entG (A ++ B)) :: (grpsT (A ++ B) ++ (t.things ++ R))):=H5; have c2:=blk_cell H6.head 2 (v:=.int .i64 ((i + 1:Nat):Int)) rfl; have f2:=blk_free H6.head 2; have H8:Own V (w3.setCell ⟨S,2,none⟩ (.int .i64 (i:Int))) ((⟨S,some M,u,A ++ B,i,last⟩ : SetN).things ++ (t.things ++ R)):=H6.store 2 (.int .i64 (i:Int)); have mt:∀ y ∈ t.things,y ∈ ((⟨S,some M,u,A ++ B,i,last⟩ : SetN).things ++ (t.things ++ R)):=fun y hy => List.mem_append_right _ (List.mem_append_left _ hy); have tat:=grp_of (fun y hy => H8.holds y (mt y hy)); have d1:=blk_cell tat.blk 1 (v:=.map (some t.M)) rfl; rw [dn.b,HM.out.2] at d1; have zl:=fun ty => len_u (t:=202) (e:=216) Tryz.underlying202 tat.map ty; have e0:0 < (entR t.rows).length:=(by { unfold entR; rw [List.length_map]; exact List.length_pos_iff.2 (fun e => absurd (dn.none_.1 e) HZ.out) }); obtain ⟨tl,htl⟩ : ∃ tl,(entR t.rows).length = tl:=⟨_,rfl⟩; rw [htl] at zl e0; have e1:(0:Int) < (tl:Int):=(by omega); have HTL:=Lib.hid htl; clear htl; clear zd H3 H4 H5 H6 dn mt tat))
    | (go_at_call 141; ((with_reducible refine (uenter_n (DN.out.b.trans HM.out.2) H8 HO.out.1 (by rw [DN.out.mask]; exact HO.out.2.2) HB.out.2.2 (few_of DN.out.good (fun e => absurd (DN.out.none_.1 e) HZ.out) (by rw [DN.out.flat.length_eq]; exact HB.out.1)) HB.out.2.1 (by rw [DN.out.mask]; exact HE.out.2.2.2) (fun e => (by cases e))).mono ?_); rintro e w5 ⟨M2,u2,A2,B2,rfl,eAB,hO,H9⟩; clear H8 zl d1 e1)))
   go_ret
   refine ⟨⟨S,some M2,u2,A2 ++ t :: B2,i,last⟩,rfl,rfl,H9,?_⟩
   rw [← HM.out.1]
   have f1:(flatS (A2 ++ t :: B2)).Perm (t.flat ++ flatS (A ++ B)):=by rw [eAB]; exact flatS_mid A2 B2 t
   refine del_good HL.out (fun y hy => ?_) (masks_more (by rw [← eAB]; exact HO.out.2.1) (by rw [← eAB,DN.out.mask]; exact HO.out.2.2)) hO (fun e => (by cases e)) (f1.trans ((DN.out.flat.append_right _).trans HFL.out.symm)) (by rw [f1.length_eq,List.length_append,DN.out.flat.length_eq]; exact HI.out)
   have hy2:y = t ∨ y ∈ A ++ B:=by
    rw [eAB]
    rcases List.mem_append.1 hy with hy | hy
    · exact .inr (List.mem_append_left _ hy)
    · rcases List.mem_cons.1 hy with rfl | hy
      · exact .inl rfl
      · exact .inr (List.mem_append_right _ hy)
   rcases hy2 with rfl | hy2
   · exact ⟨DN.out.good,fun e => absurd (DN.out.none_.1 e) HZ.out⟩
   · refine HL.out.good.good y ?_
     rw [HE.out.1]
     rcases List.mem_append.1 hy2 with hy2 | hy2
     · exact List.mem_append_left _ hy2
     · exact List.mem_append_right _ (.tail _ hy2)
theorem unew_1 {V w:World} {R:List Thing} (H:Own V w R):Calls Tryz.prog 54 #[] w fun e w' => ∃ s:SetN,e = .returned (.pointer (some ⟨s.A,0,none⟩)) ∧ Own V w' (s.things ++ R) ∧ SetL s [] 0:=by
 have H1:=H.blk #[.map none,.slice none 0 0,.int .i64 0,.int .i64 0] 134
 have HH:=Lib.hid H1
 clear H H1
 go_enter Tryz.func54,Tryz.ntmps54
 go_wp2
 go_ret
 refine ⟨⟨w.heap.size,none,nilU,[],0,0⟩,rfl,?_,⟨⟨by simp,.nil,.nil,rfl,.nil,by simp [flatS],by simp [flatS],fun _ => rfl⟩,⟨[],List.Perm.nil,.nil,rfl⟩,by simp,Nat.le_refl _,Nat.le_refl _⟩⟩
 have h:=HH.out
 have h2:=(h.row (Wider.refl _) (World.ownsRow_nil _ _ 199 1)).swap
 refine ((h2.make (s:=gmT none []) (Wider.refl _) trivial (fun _ _ _ _ => trivial) (fun i hi => (by cases hi))).perm ?_)
 exact ((List.Perm.swap _ _ _).trans ((List.Perm.swap _ _ _).cons _))
def zeroI:ItN:=⟨⟨#[]⟩,⟨#[]⟩,0,0⟩
theorem usearch_g {s:SetN} {L:List ItN} {N:Nat} (hl:SetL s L N) (hN:N < 99990) {key:ByteArray} (hk:key.size < 1000000):∃ (j:Nat) (o:Option PlN),ULooksE L key j ∧ FindE L key (o.map (·.x)) ∧ (∀ p,o = some p → p.x.key.size < 1000000 ∧ p.x.mask.size < 1000000) ∧
 ∀ {V w:World} {Ls:List Thing},Own V w Ls → (∀ t ∈ s.things,t ∈ Ls) → Calls Tryz.prog 142 #[.pointer (some ⟨s.A,0,none⟩),.string key] w fun e w' => e = .returned (.tuple #[aggP (o.getD zeroP),.bool o.isSome,.int .i64 (j:Int)]) ∧ Wider w w':=by
 obtain ⟨j,o,hj,hno,hst,ho,hb,hall⟩:=search_spec hl.good key
 refine ⟨j,o,looks_of hl.good hl.all hj hall,find_of hl.all hb,fun p hp => ?_,fun {V w Ls} H hm => ?_⟩
 · rw [hp] at hb
   exact hl.small p.x ((umem_all hl.all).2 ⟨p,hb.1,rfl⟩)
 · have hr:=H.holds _ (hm _ (.tail _ (.head _)))
   refine usearch_c (gm:=s.gm) (ov:=s.ov) (items:=s.items) (last:=s.last) (n:=s.gs.length) (gs:=s.gs) (H.holds _ (hm _ (.head _))) hr rfl (by have:=hl.groups; omega) (fun g hg => ⟨grps_at (fun t ht => H.holds t (hm t (.tail _ (.tail _ (.tail _ ht))))) hg,hl.few (by omega) g hg⟩) hk hj hno hst ho
theorem store4W {V w:World} {L:List Thing} {B:Nat} {C:Array Value} {t:TypeId} (H:Own V w (blkT B C t :: L)) (a b c d:Value) :
 Wider V ((((w.setCell ⟨B,0,none⟩ a).setCell ⟨B,1,none⟩ b).setCell ⟨B,2,none⟩ c).setCell ⟨B,3,none⟩ d) :=
 ((((H.store 0 a).store 1 b).store 2 c).store 3 d).wider
set_option maxRecDepth 20000 in
theorem ufind_g {s:SetN} {L:List ItN} {N:Nat} (hl:SetL s L N) (hN:N < 99990) {key:ByteArray} (hk:key.size < 1000000):∃ r:Option ItN,FindE L key r ∧
 ∀ {V w:World} {Ls:List Thing},Own V w Ls → (∀ t ∈ s.things,t ∈ Ls) → Calls Tryz.prog 133 #[.pointer (some ⟨s.A,0,none⟩),.string key] w fun e w' => e = .returned (.tuple #[aggI (r.getD zeroI),.bool r.isSome]) ∧ Wider w w':=by
 obtain ⟨j,o,_,hf,hsm,hc⟩:=usearch_g hl hN hk
 refine ⟨_,hf,fun {V w Ls} H0 hm => ?_⟩
 have H:Own w (w.alloc (.cells #[.string ⟨#[]⟩,.string ⟨#[]⟩,.int .i64 0,.int .i64 0] 193)) [blkT w.heap.size #[.string ⟨#[]⟩,.string ⟨#[]⟩,.int .i64 0,.int .i64 0] 193]:=(Own.nil (Wider.refl w)).blk _ _
 have zs:=hc (H0.quiet H.wider) hm
 obtain ⟨S,hS⟩ : ∃ S,s.A = S:=⟨_,rfl⟩
 obtain ⟨B4,hB4⟩ : ∃ B4,w.heap.size = B4:=⟨_,rfl⟩
 obtain ⟨W0,hW0⟩ : ∃ W0,w.alloc (.cells #[.string ⟨#[]⟩,.string ⟨#[]⟩,.int .i64 0,.int .i64 0] 193) = W0:=⟨_,rfl⟩
 rw [hW0,hB4] at H
 rw [hW0] at zs
 cases o with
 | none =>
   rw [hS] at zs ⊢
   have zs:Calls Tryz.prog 142 #[.pointer (some ⟨S,0,none⟩),.string key] W0 fun e w' => e = .returned (.tuple #[.agg #[.string ⟨#[]⟩,.string ⟨#[]⟩,.int .i64 0,.int .i64 0,.int .i64 0],.bool false,.int .i64 (j:Int)]) ∧ Wider W0 w':=zs
   show Calls _ _ _ _ fun e w' => e = .returned (.tuple #[.agg #[.string ⟨#[]⟩,.string ⟨#[]⟩,.int .i64 0,.int .i64 0],.bool false]) ∧ Wider w w'
   clear hl hN hk hf hc H0 hm hS hsm
   go_enter Tryz.func133,Tryz.ntmps133
   try rw [hW0]
   try rw [hB4]
   go_wp2_with (first
    | (go_at_call 142; ((with_reducible refine zs.mono ?_); rintro e w1 ⟨rfl,g1⟩; have H1:=H.quiet (g1.alloc (.cells #[.string ⟨#[]⟩,.string ⟨#[]⟩,.int .i64 0,.int .i64 0,.int .i64 0] 207)); have y0:=blk_cell H1.head 0 (v:=.string ⟨#[]⟩) rfl; have y1:=blk_cell H1.head 1 (v:=.string ⟨#[]⟩) rfl; have y2:=blk_cell H1.head 2 (v:=.int .i64 0) rfl; have y3:=blk_cell H1.head 3 (v:=.int .i64 0) rfl; have f0:=blk_free H1.head 0; have f1:=blk_free H1.head 1; have f2:=blk_free H1.head 2; have f3:=blk_free H1.head 3; clear zs g1 H)))
   simp [bodyPost,results,Tryz.results133,go_sem,y0,y1,y2,y3]
   exact store4W H1 _ _ _ _
 | some p =>
   obtain ⟨⟨k0,m0,p0,v0⟩,n0⟩:=p
   obtain ⟨s1,s2⟩:=hsm _ rfl
   have zo:∀ W,Calls Tryz.prog 143 #[.agg #[.string k0,.string m0,.int .i64 p0,.int .i64 v0]] W fun e w' => e = .returned (.agg #[.string k0,.string m0,.int .i64 p0,.int .i64 v0]) ∧ Wider W w':=uown_c ⟨k0,m0,p0,v0⟩ s1 s2
   rw [hS] at zs ⊢
   have zs:Calls Tryz.prog 142 #[.pointer (some ⟨S,0,none⟩),.string key] W0 fun e w' => e = .returned (.tuple #[.agg #[.string k0,.string m0,.int .i64 p0,.int .i64 v0,.int .i64 (n0:Int)],.bool true,.int .i64 (j:Int)]) ∧ Wider W0 w':=zs
   show Calls _ _ _ _ fun e w' => e = .returned (.tuple #[.agg #[.string k0,.string m0,.int .i64 p0,.int .i64 v0],.bool true]) ∧ Wider w w'
   clear hl hN hk hf hc H0 hm hS hsm s1 s2
   go_enter Tryz.func133,Tryz.ntmps133
   try rw [hW0]
   try rw [hB4]
   go_wp2_with (first
    | (go_at_call 142; ((with_reducible refine zs.mono ?_); rintro e w1 ⟨rfl,g1⟩; have H1:=H.quiet (g1.alloc (.cells #[.string k0,.string m0,.int .i64 p0,.int .i64 v0,.int .i64 (n0:Int)] 207)); clear zs g1 H))
    | (go_at_call 143; ((with_reducible refine (zo _).mono ?_); rintro e w2 ⟨rfl,g2⟩; have H2:=H1.quiet g2; have y0:=blk_cell H2.head 0 (v:=.string ⟨#[]⟩) rfl; have y1:=blk_cell H2.head 1 (v:=.string ⟨#[]⟩) rfl; have y2:=blk_cell H2.head 2 (v:=.int .i64 0) rfl; have y3:=blk_cell H2.head 3 (v:=.int .i64 0) rfl; have f0:=blk_free H2.head 0; have f1:=blk_free H2.head 1; have f2:=blk_free H2.head 2; have f3:=blk_free H2.head 3; clear zo g2 H1)))
   simp [bodyPost,results,Tryz.results133,go_sem,y0,y1,y2,y3]
   exact store4W H2 _ _ _ _
end Go.Proofs.YtbnpelciceblfaaGreat
namespace Go.Proofs.YtbnpelciceblfaaGreat
set_option linter.unusedVariables false
open Go.ChangeShapes Go.WideShapes Go.ChangeAt Go.RowKit Go.Joins Go.Maps Go.ChangeMaps
open Go.WideElems (Fit rd rg pl)
set_option maxHeartbeats 64000000
theorem Own.over {V w w':World} {L M:List Thing} (H:Own V w L) (K:Own w w' M):Own V w' (M ++ L) where
 holds r m:=by
  rcases List.mem_append.1 m with m | m
  · exact K.holds r m
  · exact (H.quiet K.wider).holds r m
 new r m i hi:=by
  rcases List.mem_append.1 m with m | m
  · exact ⟨Nat.le_trans H.wider.2 (K.new r m i hi).1,(K.new r m i hi).2⟩
  · exact (H.quiet K.wider).new r m i hi
 apart:=List.pairwise_append.2 ⟨K.apart,H.apart,fun a ha b hb i hi hj => by
  have:=(K.new a ha i hi).1
  have:=(H.new b hb i hj).2
  omega⟩
 stable r m:=by
  rcases List.mem_append.1 m with m | m
  · exact K.stable r m
  · exact H.stable r m
 wider:=H.wider.trans K.wider
def ItAt (es:Array MapEntry) (clock M r:Nat) (left:Lit → Bool) (cnt:Nat) (w:World):Prop :=
 ∃ since seen c0,w.heap[r]? = some (.mapIter (some M) since seen c0) ∧ (∀ x ∈ es.toList,x.born < since) ∧ (leftOf es seen).size = cnt ∧ (∀ x ∈ es.toList,left (rg Tryz.prog 9 heldU x).1 = !seen.contains x.born) ∧
   (∀ kl,left kl = true → ∃ x ∈ es.toList,(rg Tryz.prog 9 heldU x).1 = kl) ∧ since ≤ c0 ∧ since ≤ clock
abbrev itT (es:Array MapEntry) (clock M r:Nat) (left:Lit → Bool) (cnt:Nat):Thing:=([r],fun w => ItAt es clock M r left cnt w)
theorem itT_stable (es:Array MapEntry) (clock M r:Nat) (left:Lit → Bool) (cnt:Nat):(itT es clock M r left cnt).Stable:=by
 rintro W w ⟨since,seen,c0,h,k⟩ hh
 exact ⟨since,seen,c0,(hh r (by simp)).trans h,k⟩
theorem ranges_it {w:World} {M r n:Nat} {D:DataW Value} {left:Lit → Bool} {cnt:Nat} {es:Array MapEntry} {clock:Nat} (h:w.ranges Tryz.prog 9 heldU M r n D left cnt) (hb:w.heap[M]? = some (.map es clock)):ItAt es clock M r left cnt w:=by
 obtain ⟨es2,clock2,since,seen,c0,hb2,F,hs,hD,hr,k⟩:=h
 rw [hb] at hb2
 injection hb2 with hb2
 injection hb2 with e1 e2
 subst e1 e2
 exact ⟨since,seen,c0,hr,k⟩
theorem it_ranges {w:World} {M r n:Nat} {D:DataW Value} {left:Lit → Bool} {cnt:Nat} {es:Array MapEntry} {clock:Nat} (h:ItAt es clock M r left cnt w) (hb:w.heap[M]? = some (.map es clock)) (F:Fit Tryz.prog 9 heldU es clock) (hs:es.size ≤ n) (hD:D = .map ((es.toList.map (rg Tryz.prog 9 heldU)).foldr DataW.insert [])) :
 w.ranges Tryz.prog 9 heldU M r n D left cnt:=by
 obtain ⟨since,seen,c0,hr,k⟩:=h
 exact ⟨es,clock,since,seen,c0,hb,F,hs,hD,hr,k⟩
def metR (l:List RowN) (left:Lit → Bool):List RowN:=l.filter fun r => !left (keyU r.key)
theorem met_none (l:List RowN) {left:Lit → Bool} (h:∀ r ∈ l,left (keyU r.key) = true):metR l left = []:=by
 refine List.filter_eq_nil_iff.2 fun r hr => ?_
 rw [h r hr]; decide
theorem met_all (l:List RowN) {left:Lit → Bool} (h:∀ k,left k = false):metR l left = l:=by
 refine List.filter_eq_self.2 fun r hr => ?_
 rw [h]; rfl
theorem sameKeyU (a b:ByteArray):(keyU a).sameKey (keyU b) = decide (a = b):=by
 by_cases e:a = b
 · subst e
   rw [decide_eq_true rfl]
   unfold keyU Lit.sameKey
   simp
 · rw [decide_eq_false e]
   exact sameKey_ne fun q => e (keyU_inj q)
theorem met_next {l:List RowN} (hk:KeysR l) {left:Lit → Bool} {r:RowN} (hr:r ∈ l) (hl:left (keyU r.key) = true):(metR l fun z => left z && !z.sameKey (keyU r.key)).Perm (metR l left ++ [r]):=by
 induction l with
 | nil => cases hr
 | cons a l ih =>
   obtain ⟨h1,h2⟩:=List.pairwise_cons.1 hk
   unfold metR
   rw [List.filter_cons,List.filter_cons]
   rcases List.mem_cons.1 hr with rfl | hr
   · rw [if_pos (by simp [sameKeyU]),if_neg (by simp [hl])]
     have e:(l.filter fun x => !(left (keyU x.key) && !(keyU x.key).sameKey (keyU r.key))) = l.filter fun x => !left (keyU x.key):=by
      refine List.filter_congr fun x hx => ?_
      have ne:x.key ≠ r.key:=fun q => h1 x hx q.symm
      simp [sameKeyU,ne]
     rw [e]
     exact List.perm_append_comm (l₁:=[r])
   · have ne:a.key ≠ r.key:=fun q => h1 r hr q
     have ihh:=ih h2 hr
     unfold metR at ihh
     by_cases c:left (keyU a.key) = true
     · rw [if_neg (by simp [c,sameKeyU,ne]),if_neg (by simp [c])]
       exact ihh
     · rw [if_pos (by simp [c]),if_pos (by simp [c])]
       exact ihh.cons a
end Go.Proofs.YtbnpelciceblfaaGreat
namespace Go.Proofs.YtbnpelciceblfaaGreat
set_option linter.unusedVariables false
open Go.ChangeShapes Go.WideShapes Go.ChangeAt Go.RowKit Go.Joins Go.Maps Go.ChangeMaps
set_option maxHeartbeats 64000000
instance (x:ItN) (k:ByteArray):Decidable (MatchN x k):=inferInstanceAs (Decidable (_ ∧ _))
instance (x:ItN):Decidable (FormN x):=inferInstanceAs (Decidable (MatchN _ _))
def stepF (key:ByteArray) (o:Option ItN) (y:ItN):Option ItN :=
 if MatchN y key then (match o with | none => some y | some b => if b.prio < y.prio then some y else some b) else o
def findF (key:ByteArray) (L:List ItN):Option ItN:=L.foldl (stepF key) none
theorem findF_low {key:ByteArray} {x:ItN} : ∀ (A:List ItN) (o:Option ItN),(∀ y ∈ A,MatchN y key → y.prio < x.prio) → (∀ b,o = some b → b.prio < x.prio) → ∀ b,A.foldl (stepF key) o = some b → b.prio < x.prio
 | [],o,_,h => h
 | a :: A,o,hA,h => by
   rw [List.foldl_cons]
   refine findF_low A _ (fun y hy => hA y (.tail _ hy)) fun b hb => ?_
   unfold stepF at hb
   split at hb
   · rename_i hm
     have ha:=hA a (.head _) hm
     cases o with
     | none => injection hb with hb; rw [← hb]; exact ha
     | some c =>
       dsimp only at hb
       split at hb
       · injection hb with hb; rw [← hb]; exact ha
       · injection hb with hb; rw [← hb]; exact h c rfl
   · exact h b hb
theorem findF_stay {key:ByteArray} {x:ItN} : ∀ (B:List ItN),(∀ y ∈ B,MatchN y key → y.prio ≤ x.prio) → B.foldl (stepF key) (some x) = some x
 | [],_ => rfl
 | a :: B,h => by
   rw [List.foldl_cons]
   have e:stepF key (some x) a = some x:=by
    unfold stepF
    split
    · rename_i hm
      have:=h a (.head _) hm
      dsimp only
      rw [if_neg (by omega)]
    · rfl
   rw [e]
   exact findF_stay B fun y hy => h y (.tail _ hy)
theorem find_eq {L:List ItN} {key:ByteArray} {r:Option ItN} (h:FindE L key r):r = findF key L:=by
 cases r with
 | none =>
   unfold findF
   have:∀ l:List ItN,(∀ x ∈ l,¬ MatchN x key) → l.foldl (stepF key) none = none:=by
    intro l
    induction l with
    | nil => intro _; rfl
    | cons a l ih =>
      intro hl
      rw [List.foldl_cons]
      have e:stepF key none a = none:=by unfold stepF; rw [if_neg (hl a (.head _))]
      rw [e]
      exact ih fun x hx => hl x (.tail _ hx)
   exact (this L h).symm
 | some x =>
   obtain ⟨hm,A,B,rfl,hA,hB⟩:=h
   unfold findF
   rw [List.foldl_append,List.foldl_cons]
   have lo:=findF_low (key:=key) (x:=x) A none hA (fun b hb => by cases hb)
   have e:stepF key (A.foldl (stepF key) none) x = some x:=by
    generalize A.foldl (stepF key) none = o at lo
    unfold stepF
    rw [if_pos hm]
    cases o with
    | none => rfl
    | some b => dsimp only; rw [if_pos (lo b rfl)]
   rw [e,findF_stay B hB]
theorem ufind_o {V w:World} {Ls:List Thing} {s:SetN} {L:List ItN} {N:Nat} (hl:SetL s L N) (hN:N < 99990) {key:ByteArray} (hk:key.size < 1000000) (H:Own V w Ls) (hm:∀ t ∈ s.things,t ∈ Ls) {r:Option ItN} (hr:findF key L = r) :
 Calls Tryz.prog 133 #[.pointer (some ⟨s.A,0,none⟩),.string key] w fun e w' => e = .returned (.tuple #[aggI (r.getD zeroI),.bool r.isSome]) ∧ Wider w w':=by
 obtain ⟨n,h1,h2⟩:=ufind_g hl hN hk
 rw [← hr,← find_eq h1]
 exact h2 H hm
theorem uget3 (w:World) (key mask:ByteArray) (prio v:Int):(w.alloc (.cells #[.string key,.string mask,.int .i64 prio,.int .i64 v] 193)).cell? ⟨w.heap.size,3,none⟩ = some (.int .i64 v):=by rw [World.cell?_alloc_new]; simp
end Go.Proofs.YtbnpelciceblfaaGreat
