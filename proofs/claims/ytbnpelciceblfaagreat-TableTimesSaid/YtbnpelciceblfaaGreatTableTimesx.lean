/- Nothing expires ahead of Due, and something at it; what expires is told with its Tag, in the row in which it stood, and all others stay: for all tables, widths, acts and readings, the statement's function returns true. -/
import Derived.Test.YtbnpelciceblfaaGreatQ35
namespace Go.Proofs.YtbnpelciceblfaaGreat
set_option linter.unusedVariables false
open Go.ChangeShapes Go.WideShapes Go.ChangeAt Go.RowKit Go.Joins
set_option maxHeartbeats 64000000
set_option maxRecDepth 100000 in
theorem tableTimes_walk (w:World) (t:TabV) (KA:Option Addr) (kn kc:Nat) (hk:NumsAt w (.slice KA kn kc) t.keys) (hkl:t.keys.length ≤ maxLen) (hcap:-9223372036854775808 ≤ t.cap ∧ t.cap ≤ 9223372036854775807) (WA:Option Addr) (wn wc:Nat) (zs:List Int) (hw:NumsAt w (.slice WA wn wc) zs) (hwl:zs.length ≤ maxLen)
 (A:Option Addr) (n cap:Nat) (l:List ActT) (hl:l.length = n) (ha:ActsTAt w A l) (hn:l.length ≤ maxLen) (hz:∀ y ∈ l,y.Ok) (now:Int) (hn0:-9223372036854775808 ≤ now) (hn1:now ≤ 9223372036854775807) :
 Calls Tryz.prog 4 #[.agg (tabC t (.slice KA kn kc)),.slice WA wn wc,.slice A n cap,.int .i64 now] w fun e w' => e = .returned (.bool true) ∧ Wider w w':=by
 obtain ⟨_,_,_,eK,hkn,-⟩:=id hk
 cases eK
 obtain ⟨_,_,_,eW,hwn,-⟩:=id hw
 cases eW
 unfold maxLen at hn hkl hwl
 have H0:Own w w []:=Own.nil (Wider.refl w)
 have H1:=H0.blk (tabC t (.slice KA kn kc)) 36
 obtain ⟨id,kind,keys,cp,miss⟩:=t
 have hkn:keys.length = kn:=hkn
 have ok:∀ x ∈ l,x.x.key.size ≤ 9223372036854775807 ∧ x.x.oth.size ≤ 9223372036854775807 ∧ x.x.args.length ≤ 9223372036854775807:=fun x hx => by
  have h:=(hz x hx).x; have h1:=h.key; have h2:=h.oth; have h3:=h.args; unfold maxLen at h1 h2 h3; omega
 obtain ⟨b,hb⟩ : ∃ b,decide (6000 ≤ bulkT l) = b:=⟨_,rfl⟩
 have zl:=fun (W:World) (g:Wider w W) => ylong_c A n cap l W (ha.on g) hl (by omega) ok hb
 have c2:=blk_cell H1.head 2 (v:=.slice KA kn kc) rfl
 have G:=(Wider.refl w).alloc (.cells #[.int .i64 id,.int .u8 kind,.slice KA kn kc,.int .i64 cp,.int .i64 miss] 36)
 show Calls Tryz.prog 4 #[.agg #[.int .i64 id,.int .u8 kind,.slice KA kn kc,.int .i64 cp,.int .i64 miss],.slice WA wn wc,.slice A n cap,.int .i64 now] w _
 cases b with
 | true =>
   clear hk hkl hw hwl hl ha hn hz hkn hwn H0 H1 ok hb hcap hn0 hn1
   go_enter Tryz.func4,Tryz.ntmps4
   go_wp2_with (first
    | (go_at_call 23; ((with_reducible refine (zl _ G).mono ?_); rintro e w1 ⟨rfl,g⟩; replace G:=G.trans g; replace c2:=wkeep g c2; clear zl g))
    | (go_at_call 7; ((with_reducible refine (yawake_c _).mono ?_); rintro e w2 ⟨rfl,g⟩; replace G:=G.trans g; clear g)))
   go_ret
   exact ⟨rfl,G⟩
 | false =>
   by_cases b1:100 < kn
   · have i1:(100:Int) < (kn:Int):=by omega
     clear hk hkl hw hwl hl ha hn hz hkn hwn H0 H1 ok hb hcap hn0 hn1 b1
     go_enter Tryz.func4,Tryz.ntmps4
     go_wp2_with (first
      | (go_at_call 23; ((with_reducible refine (zl _ G).mono ?_); rintro e w1 ⟨rfl,g⟩; replace G:=G.trans g; replace c2:=wkeep g c2; clear zl g))
      | (go_at_call 7; ((with_reducible refine (yawake_c _).mono ?_); rintro e w2 ⟨rfl,g⟩; replace G:=G.trans g; clear g)))
     go_ret
     exact ⟨rfl,G⟩
   · have i1:¬ (100:Int) < (kn:Int):=by omega
     by_cases b2:100 < wn
     · have i2:(100:Int) < (wn:Int):=by omega
       clear hk hkl hw hwl hl ha hn hz hkn hwn H0 H1 ok hb hcap hn0 hn1 b1 b2
       go_enter Tryz.func4,Tryz.ntmps4
       go_wp2_with (first
        | (go_at_call 23; ((with_reducible refine (zl _ G).mono ?_); rintro e w1 ⟨rfl,g⟩; replace G:=G.trans g; replace c2:=wkeep g c2; clear zl g))
        | (go_at_call 7; ((with_reducible refine (yawake_c _).mono ?_); rintro e w2 ⟨rfl,g⟩; replace G:=G.trans g; clear g)))
       go_ret
       exact ⟨rfl,G⟩
     · have i2:¬ (100:Int) < (wn:Int):=by omega
       have hn9:n < 90000:=by have:=bulkT_length l; have:=of_decide_eq_false hb; omega
       have zm:=fun {R:List Thing} (W:World) (h:Own w W R) => ymade_c (c:=cap) h (t:=⟨id,kind,keys,cp,miss⟩) hk hw (by show keys.length < 1000; omega) (by omega) ha hl hn9 hz
       clear hkl hwl hl ha hn hz ok hb b1 b2 hk hw c2
       obtain ⟨Bt,hBt⟩ : ∃ B,w.heap.size = B:=⟨_,rfl⟩
       have H2:=H1
       rw [hBt] at H2
       have c0:=blk_cell H1.head 0 (v:=.int .i64 id) rfl
       have c1:=blk_cell H1.head 1 (v:=.int .u8 kind) rfl
       have c2:=blk_cell H1.head 2 (v:=.slice KA kn kc) rfl
       have c3:=blk_cell H1.head 3 (v:=.int .i64 cp) rfl
       have c4:=blk_cell H1.head 4 (v:=.int .i64 miss) rfl
       have HNW:=Lib.hid (And.intro hn0 hn1)
       clear hkn hwn H0 hcap H1 hn0 hn1
       go_enter Tryz.func4,Tryz.ntmps4
       go_upto_region 1 with (fail)
       try rw [hBt]
       rw [hBt] at c0 c1 c2 c3 c4
       generalize hW0:(w.alloc (.cells #[.int .i64 id,.int .u8 kind,.slice KA kn kc,.int .i64 cp,.int .i64 miss] 36)) = W0 at *
       clear hW0 hBt
       go_upto_region 4 with (first
        | (go_at_call 23; ((with_reducible refine (zl _ G).mono ?_); rintro e w1 ⟨rfl,g⟩; replace G:=G.trans g; replace H2:=H2.quiet g; replace c0:=wkeep g c0; replace c1:=wkeep g c1; replace c2:=wkeep g c2; replace c3:=wkeep g c3; replace c4:=wkeep g c4; clear zl g))
        | (go_at_call 7; ((with_reducible refine (yawake_c _).mono ?_); rintro e w2 ⟨rfl,g⟩; replace G:=G.trans g; replace H2:=H2.quiet g; replace c0:=wkeep g c0; replace c1:=wkeep g c1; replace c2:=wkeep g c2; replace c3:=wkeep g c3; replace c4:=wkeep g c4; clear g))
        | (go_at_call 24; ((with_reducible refine (zm _ H2).mono ?_); rintro e w3 ⟨p,rfl,hD⟩; clear zm c0 c1 c2 c3 c4)))
       have HH2:=Lib.hid H2.wider
       clear H2
       rcases hD with ⟨rfl,g⟩ | ⟨S,s,rfl,hcs,hsn,K0⟩
       · go_wp2
         go_ret
         exact ⟨rfl,HH2.out.trans g⟩
       · have K:=K0.less (M:=[_]) (R:=[])
         have HN9:=Lib.hid (show s.n < 99990 by omega)
         clear hsn
         have gd:=K.good
         obtain ⟨m,hm⟩ : ∃ m,s.L.length = m:=⟨_,rfl⟩
         have HM:=Lib.hid hm
         have HGD:=Lib.hid gd
         obtain ⟨d,is,hd,zd⟩:=ydue_c K
         have zd:=zd w3 (Wider.refl w3)
         clear hcs K0 gd hm
         cases is with
         | false =>
           obtain ⟨rfl,o1⟩:=due_none hd (clampT now)
           have o2:=(due_none hd (clampT 1099511627776)).2
           have zc:=fun (W:World) (k:StoreIs w W [] S s) => ycopy_c k HN9.out
           have zx:=fun (W:World) (T:Nat) (k:StoreTwo w W [] T s S s) => ycopyx_c k HN9.out now (n:=0) (by rw [o1]; rfl)
           have zy:=fun (W:World) (T:Nat) (k:StoreTwo w W [] T s S s) => ycopyx_c k HN9.out 1099511627776 (n:=0) (by rw [o2]; rfl)
           clear hd o1 o2
           go_wp2_with (first
            | (go_at_call 15; ((with_reducible refine zd.mono ?_); rintro e w4 ⟨rfl,g⟩; have K1:=K.quiet g; clear zd g K))
            | (go_at_call 20; ((with_reducible refine (zc _ K1).mono ?_); rintro e w5 ⟨T1,rfl,K2⟩; clear K1))
            | (go_at_call 17; ((with_reducible refine (zx _ _ K2).mono ?_); rintro e w6 ⟨B1,e1,rfl,K3⟩; clear K2 zx))
            | (go_at_call 20; ((with_reducible refine (zc _ K3).mono ?_); rintro e w7 ⟨T2,rfl,K4⟩; clear K3))
            | (go_at_call 17; ((with_reducible refine (zy _ _ K4).mono ?_); rintro e w8 ⟨B2,e2,rfl,K5⟩; clear K4 zy)))
           go_ret
           exact ⟨rfl,K5.wider⟩
         | true =>
           obtain ⟨d1,hdm⟩:=due_some HGD.out.l hd
           obtain ⟨dpos,dle⟩ : (0:Int) < d ∧ d ≤ 2199023255552:=by
            refine ⟨by omega,?_⟩
            rcases hd with ⟨h,_⟩ | ⟨_,⟨h,hh,ho⟩,_⟩
            · cases h
            · have p1:=HGD.out.l.put h hh
              have p2:=HGD.out.l.found h hh
              have p3:=HGD.out.l.hard h hh
              have p4:=HGD.out.l.idle h hh
              rcases ho with ⟨_,e⟩ | ⟨_,e⟩ <;> omega
           have w1:IntKind.i64.wrap (d - 1) = d - 1:=by simp [IntKind.wrap,IntKind.bits,IntKind.signed]; omega
           have zc:=fun (W:World) (k:StoreIs w W [] S s) => ycopy_c k HN9.out
           by_cases dm:d ≤ 1099511627776
           · obtain ⟨o1,o2⟩:=hdm dm
             obtain ⟨v,hv⟩ : ∃ v,(outT (clampT d) s.L).length = v:=⟨_,rfl⟩
             have v0:((v:Int) == 0) = false:=by
              rw [beq_eq_false_iff_ne]
              intro e
              exact o2 (List.eq_nil_of_length_eq_zero (by omega))
             have zx:=fun (W:World) (T:Nat) (k:StoreTwo w W [] T s S s) => ycopyx_c k HN9.out (d - 1) (n:=0) (by rw [o1]; rfl)
             have zy:=fun (W:World) (T:Nat) (k:StoreTwo w W [] T s S s) => ycopyx_c k HN9.out d hv
             clear hd hdm o1 o2 hv d1
             go_upto_region 11 with (first
              | (go_at_call 15; ((with_reducible refine zd.mono ?_); rintro e w4 ⟨rfl,g⟩; have K1:=K.quiet g; clear zd g K))
              | (go_at_call 20; ((with_reducible refine (zc _ K1).mono ?_); rintro e w5 ⟨T1,rfl,K2⟩; clear K1))
              | (go_at_call 17; ((with_reducible refine (zx _ _ K2).mono ?_); rintro e w6 ⟨Bq,e1,rfl,K3⟩; clear K2 zx))
              | (go_at_call 20; ((with_reducible refine (zc _ K3).mono ?_); rintro e w7 ⟨T2,rfl,K4⟩; clear K3))
              | (go_at_call 17; ((with_reducible refine (zy _ _ K4).mono ?_); rintro e w8 ⟨Br,e2,rfl,K9⟩; clear K4 zy)))
             clear zc w1 v0
             as_aux_lemma =>
              obtain ⟨ou,hou⟩ : ∃ k,(outT (clampT now) s.L).length = k:=⟨_,rfl⟩
              obtain ⟨ru,hru⟩ : ∃ k,(restT (clampT now) s.L).length = k:=⟨_,rfl⟩
              have za:=fun (W:World) (k:StoreIs w W [] S s) => yents_c k HM.out
              have zx:=fun {R:List Thing} (W:World) (k:StoreIs w W R S s) => yexpire_c k HN9.out now hou
              have zb:=fun {R:List Thing} (W:World) (k:StoreIs w W R S { s with L:=restT (clampT now) s.L }) => yents_c k hru
              have oum:ou ≤ m:=by rw [← hou,← HM.out]; unfold outT; rw [List.length_map]; exact List.length_filter_le _ _
              have rum:ru ≤ m:=by rw [← hru,← HM.out]; exact List.length_filter_le _ _
              have m256:m ≤ 256:=by have:=HGD.out.l.len; have:=HGD.out.c2; have:=HM.out; omega
              go_upto_region 14 with (first
               | (go_at_call 18; ((with_reducible refine (za _ K9).mono ?_); rintro e w21 ⟨B1,c1,E1,rfl,hE1,KA1⟩; clear K9 za))
               | (go_at_call 17; ((with_reducible refine (zx _ KA1).mono ?_); rintro e w22 ⟨B2,c2,G2,rfl,hG2,KA2⟩; clear KA1 zx))
               | (go_at_call 18; ((with_reducible refine (zb _ KA2).mono ?_); rintro e w23 ⟨B3,c3,E3,rfl,hE3,KA3⟩; clear KA2 zb)))
              have l1:E1.length = m:=by rw [← HM.out,← List.length_map (f:=fun h:HeldM => h.x),← hE1,List.length_map]
              have l2:G2.length = ou:=by rw [← hou,← hG2,List.length_map]
              have l3:E3.length = ru:=by rw [← hru,← List.length_map (f:=fun h:HeldM => h.x),← hE3,List.length_map]
              have HF:=Lib.hid (And.intro hE1 (And.intro hG2 (And.intro hE3 (And.intro l1 (And.intro l2 (And.intro l3 (And.intro hou hru)))))))
              clear hE1 hG2 hE3 l1 l2 l3 hou hru
              go_wp2
              go_loopw [15,16,17] (fun a b c wr => ∃ (i k j:Nat),j ≤ m ∧ a = .int .i64 (i:Int) ∧ b = .int .i64 (k:Int) ∧ c = .int .i64 (j:Int) ∧ Hid ((outT (clampT now) (s.L.take j)).length = i ∧ (restT (clampT now) (s.L.take j)).length = k) ∧ StoreIs w wr (entsT (.slice B3 ru c3) ru E3 ++ (gonesT (.slice B2 ou c2) ou G2 ++ (entsT (.slice B1 m c1) m E1 ++ []))) S { s with L:=restT (clampT now) s.L }) (fun _ _ c _ => m - (intOf c).toNat)
              case atStart => exact ⟨0,0,0,Nat.zero_le _,rfl,rfl,rfl,Lib.hid ⟨rfl,rfl⟩,KA3⟩
              case round =>
               clear KA3
               obtain ⟨i,k,j,hj,rfl,rfl,rfl,HI,K⟩:=hrel
               have j0:(0:Int) ≤ (j:Int):=by omega
               have i0:(0:Int) ≤ (i:Int):=by omega
               have k0:(0:Int) ≤ (k:Int):=by omega
               by_cases dj:j < m
               · have j1:(j:Int) < (m:Int):=by omega
                 obtain ⟨⟨x,xp,xf⟩,hx⟩ : ∃ h,s.L[j]? = some h:=⟨s.L[j]'(by rw [HM.out]; exact dj),List.getElem?_eq_getElem _⟩
                 obtain ⟨hE1,hG2,hE3,l1,l2,l3,hou,hru⟩:=HF.out
                 obtain ⟨h1,h2⟩:=HI.out
                 obtain ⟨Bk,eB,ka⟩:=ents_at K.rest (fun t ht => List.mem_append_right _ (List.mem_append_right _ (List.mem_append_left _ ht))) l1 j x (by rw [hE1,List.getElem?_map,hx]; rfl)
                 subst eB
                 obtain ⟨Aa,na,ca,hna,ra,a0,a1,a2,a3,a4,a5,a6,a7,a8,a9,a10⟩:=ka.cells
                 have hna4:na < 1000000:=by
                  have:=HGD.out.may _ (List.mem_of_getElem? hx)
                  unfold mayT at this
                  have:=(of_decide_eq_true (Bool.and_eq_true_iff.1 this).1).2.2.2.1
                  have:x.args.length ≤ 4:=this
                  omega
                 rcases tagT_cases (clampT now) ⟨x,xp,xf⟩ with ⟨tg,th,_⟩ | ⟨tg,th,_⟩ | ⟨tg,_⟩
                 · have tne:tagT (clampT now) ⟨x,xp,xf⟩ ≠ 0:=by rw [tg]; decide
                   obtain ⟨so,sl,sr⟩:=step_out hx tne
                   rw [h1,tg] at so
                   have HN2:=Lib.hid (show (outT (clampT now) (s.L.take (j + 1))).length = i + 1 ∧ (restT (clampT now) (s.L.take (j + 1))).length = k from ⟨by rw [sl,h1],by rw [sr,h2]⟩)
                   have iou:i < ou:=by rw [← hou]; exact (List.getElem?_eq_some_iff.1 so).1
                   have i1:(i:Int) < (ou:Int):=by omega
                   obtain ⟨Bg,eG,kg⟩:=gones_at K.rest (fun t ht => List.mem_append_right _ (List.mem_append_left _ ht)) l2 (j:=i) (x:=x) (tag:=1) (by rw [hG2]; exact so)
                   subst eG
                   obtain ⟨⟨Ag,ng,cg,hng,rg,g0,g1,g2,g3,g4,g5,g6,g7,g8,g9,g10⟩,gt⟩:=kg
                   have zs:=fun (z:After wr) => ysame_c x x (cap:=cg) (cap2:=ca) z.w (rg.on z.h) (ra.on z.h) (by omega) (decide_eq_true rfl)
                   obtain ⟨xtb,xkey,xoth,xln,xpr,xbk,xargs,xidle,xhard,xck,xtl⟩:=x
                   have zt:(xhard == 0) = false:=by rw [beq_eq_false_iff_ne]; have:0 < xhard:=th; omega
                   have a0':=fun (z:After wr) => wkeep z.h a0
                   have a1':=fun (z:After wr) => wkeep z.h a1
                   have a2':=fun (z:After wr) => wkeep z.h a2
                   have a3':=fun (z:After wr) => wkeep z.h a3
                   have a4':=fun (z:After wr) => wkeep z.h a4
                   have a5':=fun (z:After wr) => wkeep z.h a5
                   have a6':=fun (z:After wr) => wkeep z.h a6
                   have a7':=fun (z:After wr) => wkeep z.h a7
                   have a8':=fun (z:After wr) => wkeep z.h a8
                   have a9':=fun (z:After wr) => wkeep z.h a9
                   have a10':=fun (z:After wr) => wkeep z.h a10
                   have g0':=fun (z:After wr) => wkeep z.h g0
                   have g1':=fun (z:After wr) => wkeep z.h g1
                   have g2':=fun (z:After wr) => wkeep z.h g2
                   have g3':=fun (z:After wr) => wkeep z.h g3
                   have g4':=fun (z:After wr) => wkeep z.h g4
                   have g5':=fun (z:After wr) => wkeep z.h g5
                   have g6':=fun (z:After wr) => wkeep z.h g6
                   have g7':=fun (z:After wr) => wkeep z.h g7
                   have g8':=fun (z:After wr) => wkeep z.h g8
                   have g9':=fun (z:After wr) => wkeep z.h g9
                   have g10':=fun (z:After wr) => wkeep z.h g10
                   have gt':=fun (z:After wr) => wkeep z.h gt
                   have HK:=Lib.hid K
                   clear K so sl sr tne tg th ra rg hE1 hG2 hE3 l1 l2 l3 hou hru h1 h2 hx hna hng ka a0 a1 a2 a3 a4 a5 a6 a7 a8 a9 a10 g0 g1 g2 g3 g4 g5 g6 g7 g8 g9 g10 gt
                   go_upto_region 19 with (fail)
                   refine wp_region_after (by kernel_rfl) (by kernel_rfl) (Wider.refl wr) ?_
                   repeat (go_big_quiet_step (first | (go_at_call 25; with_reducible exact quiet_after (zs _))))
                   refine wpQuiet_nil ?_
                   rintro _ ⟨z,rfl⟩
                   have K2:=HK.out.quiet z.h
                   have ga:=gt' z
                   have ha:=a8' z
                   clear zs a0' a1' a2' a3' a4' a5' a6' a7' a8' a9' a10' g0' g1' g2' g3' g4' g5' g6' g7' g8' g9' g10' gt'
                   go_wp2
                   go_roundw
                   case rel => exact ⟨i + 1,k,j + 1,by omega,by go_num,rfl,by go_num,HN2,K2⟩
                   case measure => simp [intOf]; omega
                 · have tne:tagT (clampT now) ⟨x,xp,xf⟩ ≠ 0:=by rw [tg]; decide
                   obtain ⟨so,sl,sr⟩:=step_out hx tne
                   rw [h1,tg] at so
                   have HN2:=Lib.hid (show (outT (clampT now) (s.L.take (j + 1))).length = i + 1 ∧ (restT (clampT now) (s.L.take (j + 1))).length = k from ⟨by rw [sl,h1],by rw [sr,h2]⟩)
                   have iou:i < ou:=by rw [← hou]; exact (List.getElem?_eq_some_iff.1 so).1
                   have i1:(i:Int) < (ou:Int):=by omega
                   obtain ⟨Bg,eG,kg⟩:=gones_at K.rest (fun t ht => List.mem_append_right _ (List.mem_append_left _ ht)) l2 (j:=i) (x:=x) (tag:=2) (by rw [hG2]; exact so)
                   subst eG
                   obtain ⟨⟨Ag,ng,cg,hng,rg,g0,g1,g2,g3,g4,g5,g6,g7,g8,g9,g10⟩,gt⟩:=kg
                   have zs:=fun (z:After wr) => ysame_c x x (cap:=cg) (cap2:=ca) z.w (rg.on z.h) (ra.on z.h) (by omega) (decide_eq_true rfl)
                   obtain ⟨xtb,xkey,xoth,xln,xpr,xbk,xargs,xidle,xhard,xck,xtl⟩:=x
                   have zt:(xidle == 0) = false:=by rw [beq_eq_false_iff_ne]; have:0 < xidle:=th; omega
                   have a0':=fun (z:After wr) => wkeep z.h a0
                   have a1':=fun (z:After wr) => wkeep z.h a1
                   have a2':=fun (z:After wr) => wkeep z.h a2
                   have a3':=fun (z:After wr) => wkeep z.h a3
                   have a4':=fun (z:After wr) => wkeep z.h a4
                   have a5':=fun (z:After wr) => wkeep z.h a5
                   have a6':=fun (z:After wr) => wkeep z.h a6
                   have a7':=fun (z:After wr) => wkeep z.h a7
                   have a8':=fun (z:After wr) => wkeep z.h a8
                   have a9':=fun (z:After wr) => wkeep z.h a9
                   have a10':=fun (z:After wr) => wkeep z.h a10
                   have g0':=fun (z:After wr) => wkeep z.h g0
                   have g1':=fun (z:After wr) => wkeep z.h g1
                   have g2':=fun (z:After wr) => wkeep z.h g2
                   have g3':=fun (z:After wr) => wkeep z.h g3
                   have g4':=fun (z:After wr) => wkeep z.h g4
                   have g5':=fun (z:After wr) => wkeep z.h g5
                   have g6':=fun (z:After wr) => wkeep z.h g6
                   have g7':=fun (z:After wr) => wkeep z.h g7
                   have g8':=fun (z:After wr) => wkeep z.h g8
                   have g9':=fun (z:After wr) => wkeep z.h g9
                   have g10':=fun (z:After wr) => wkeep z.h g10
                   have gt':=fun (z:After wr) => wkeep z.h gt
                   have HK:=Lib.hid K
                   clear K so sl sr tne tg th ra rg hE1 hG2 hE3 l1 l2 l3 hou hru h1 h2 hx hna hng ka a0 a1 a2 a3 a4 a5 a6 a7 a8 a9 a10 g0 g1 g2 g3 g4 g5 g6 g7 g8 g9 g10 gt
                   go_upto_region 19 with (fail)
                   refine wp_region_after (by kernel_rfl) (by kernel_rfl) (Wider.refl wr) ?_
                   repeat (go_big_quiet_step (first | (go_at_call 25; with_reducible exact quiet_after (zs _))))
                   refine wpQuiet_nil ?_
                   rintro _ ⟨z,rfl⟩
                   have K2:=HK.out.quiet z.h
                   have ga:=gt' z
                   have ha:=a7' z
                   clear zs a0' a1' a2' a3' a4' a5' a6' a7' a8' a9' a10' g0' g1' g2' g3' g4' g5' g6' g7' g8' g9' g10' gt'
                   go_wp2
                   go_roundw
                   case rel => exact ⟨i + 1,k,j + 1,by omega,by go_num,rfl,by go_num,HN2,K2⟩
                   case measure => simp [intOf]; omega
                 · obtain ⟨so,sl,sr⟩:=step_rest hx tg
                   rw [h2] at so
                   have HN2:=Lib.hid (show (outT (clampT now) (s.L.take (j + 1))).length = i ∧ (restT (clampT now) (s.L.take (j + 1))).length = k + 1 from ⟨by rw [sr,h1],by rw [sl,h2]⟩)
                   have kru:k < ru:=by rw [← hru]; exact (List.getElem?_eq_some_iff.1 so).1
                   have k1:(k:Int) < (ru:Int):=by omega
                   obtain ⟨Br,eR,kr⟩:=ents_at K.rest (fun t ht => List.mem_append_left _ ht) l3 k x (by rw [hE3,List.getElem?_map,so]; rfl)
                   subst eR
                   obtain ⟨Ar,nr,cr,hnr,rr,b0,b1,b2,b3,b4,b5,b6,b7,b8,b9,b10⟩:=kr.cells
                   have HK:=Lib.hid K
                   have hnr4:nr < 1000000:=by omega
                   by_cases hio:i < ou
                   · have i1:(i:Int) < (ou:Int):=by omega
                     obtain ⟨⟨y,ty⟩,hy⟩ : ∃ y,(outT (clampT now) s.L)[i]? = some y:=⟨(outT (clampT now) s.L)[i]'(by rw [hou]; exact hio),List.getElem?_eq_getElem _⟩
                     have ne:y ≠ x:=not_out HGD.out.l hx tg hy
                     have hy4:y.args.length ≤ 4:=by
                      have mm:=List.mem_of_getElem? hy
                      unfold outT at mm
                      obtain ⟨q,hq,eq⟩:=List.mem_map.1 mm
                      have:=HGD.out.may q (List.mem_filter.1 hq).1
                      unfold mayT at this
                      have:=(of_decide_eq_true (Bool.and_eq_true_iff.1 this).1).2.2.2.1
                      have e:q.x = y:=(Prod.mk.inj eq).1
                      rw [← e]; exact this
                     obtain ⟨Bg,eG,kg⟩:=gones_at K.rest (fun t ht => List.mem_append_right _ (List.mem_append_left _ ht)) l2 (j:=i) (x:=y) (tag:=ty) (by rw [hG2]; exact hy)
                     subst eG
                     obtain ⟨⟨Ag,ng,cg,hng,rg,g0,g1,g2,g3,g4,g5,g6,g7,g8,g9,g10⟩,gt⟩:=kg
                     have zs:=fun (z:After wr) => ysame_c y x (cap:=cg) (cap2:=ca) z.w (rg.on z.h) (ra.on z.h) (by omega) (decide_eq_false ne)
                     have hra:=fun (z:After wr) => ra.on z.h
                     have hrr:=fun (z:After wr) => rr.on z.h
                     have HXE:=Lib.hid (show x = x from rfl)
                     obtain ⟨ytb,ykey,yoth,yln,ypr,ybk,yargs,yidle,yhard,yck,ytl⟩:=y
                     clear K so sl sr tg ra rg rr hE1 hG2 hE3 l1 l2 l3 hou hru h1 h2 hx hng ka kr hy ne
                     obtain ⟨xtb,xkey,xoth,xln,xpr,xbk,xargs,xidle,xhard,xck,xtl⟩:=x
                     have a0':=fun (z:After wr) => wkeep z.h a0
                     have a1':=fun (z:After wr) => wkeep z.h a1
                     have a2':=fun (z:After wr) => wkeep z.h a2
                     have a3':=fun (z:After wr) => wkeep z.h a3
                     have a4':=fun (z:After wr) => wkeep z.h a4
                     have a5':=fun (z:After wr) => wkeep z.h a5
                     have a6':=fun (z:After wr) => wkeep z.h a6
                     have a7':=fun (z:After wr) => wkeep z.h a7
                     have a8':=fun (z:After wr) => wkeep z.h a8
                     have a9':=fun (z:After wr) => wkeep z.h a9
                     have a10':=fun (z:After wr) => wkeep z.h a10
                     have b0':=fun (z:After wr) => wkeep z.h b0
                     have b1':=fun (z:After wr) => wkeep z.h b1
                     have b2':=fun (z:After wr) => wkeep z.h b2
                     have b3':=fun (z:After wr) => wkeep z.h b3
                     have b4':=fun (z:After wr) => wkeep z.h b4
                     have b5':=fun (z:After wr) => wkeep z.h b5
                     have b6':=fun (z:After wr) => wkeep z.h b6
                     have b7':=fun (z:After wr) => wkeep z.h b7
                     have b8':=fun (z:After wr) => wkeep z.h b8
                     have b9':=fun (z:After wr) => wkeep z.h b9
                     have b10':=fun (z:After wr) => wkeep z.h b10
                     have g0':=fun (z:After wr) => wkeep z.h g0
                     have g1':=fun (z:After wr) => wkeep z.h g1
                     have g2':=fun (z:After wr) => wkeep z.h g2
                     have g3':=fun (z:After wr) => wkeep z.h g3
                     have g4':=fun (z:After wr) => wkeep z.h g4
                     have g5':=fun (z:After wr) => wkeep z.h g5
                     have g6':=fun (z:After wr) => wkeep z.h g6
                     have g7':=fun (z:After wr) => wkeep z.h g7
                     have g8':=fun (z:After wr) => wkeep z.h g8
                     have g9':=fun (z:After wr) => wkeep z.h g9
                     have g10':=fun (z:After wr) => wkeep z.h g10
                     have gt':=fun (z:After wr) => wkeep z.h gt
                     clear a0 a1 a2 a3 a4 a5 a6 a7 a8 a9 a10 b0 b1 b2 b3 b4 b5 b6 b7 b8 b9 b10 g0 g1 g2 g3 g4 g5 g6 g7 g8 g9 g10 gt
                     go_upto_region 19 with (fail)
                     refine wp_region_after (by kernel_rfl) (by kernel_rfl) (Wider.refl wr) ?_
                     repeat (go_big_quiet_step (first | (go_at_call 25; with_reducible exact quiet_after (zs _))))
                     refine wpQuiet_nil ?_
                     rintro _ ⟨z,rfl⟩
                     have K2:=HK.out.quiet z.h
                     have ra:=hra z
                     have rr:=hrr z
                     have a0:=a0' z
                     have a1:=a1' z
                     have a2:=a2' z
                     have a3:=a3' z
                     have a4:=a4' z
                     have a5:=a5' z
                     have a6:=a6' z
                     have a7:=a7' z
                     have a8:=a8' z
                     have a9:=a9' z
                     have a10:=a10' z
                     have b0:=b0' z
                     have b1:=b1' z
                     have b2:=b2' z
                     have b3:=b3' z
                     have b4:=b4' z
                     have b5:=b5' z
                     have b6:=b6' z
                     have b7:=b7' z
                     have b8:=b8' z
                     have b9:=b9' z
                     have b10:=b10' z
                     obtain ⟨wz,hwz⟩ : ∃ W,z.w = W:=⟨_,rfl⟩
                     rw [hwz] at K2 ra rr a0 a1 a2 a3 a4 a5 a6 a7 a8 a9 a10 b0 b1 b2 b3 b4 b5 b6 b7 b8 b9 b10 ⊢
                     have zq:=fun (z:After wz) => ysame_c ⟨xtb,xkey,xoth,xln,xpr,xbk,xargs,xidle,xhard,xck,xtl⟩ ⟨xtb,xkey,xoth,xln,xpr,xbk,xargs,xidle,xhard,xck,xtl⟩ (cap:=cr) (cap2:=ca) z.w (rr.on z.h) (ra.on z.h) hnr4 (decide_eq_true rfl)
                     clear hra hrr hwz ra rr zs g0' g1' g2' g3' g4' g5' g6' g7' g8' g9' g10' gt' a0' a1' a2' a3' a4' a5' a6' a7' a8' a9' a10' b0' b1' b2' b3' b4' b5' b6' b7' b8' b9' b10'
                     have a0':=fun (z:After wz) => wkeep z.h a0
                     have a1':=fun (z:After wz) => wkeep z.h a1
                     have a2':=fun (z:After wz) => wkeep z.h a2
                     have a3':=fun (z:After wz) => wkeep z.h a3
                     have a4':=fun (z:After wz) => wkeep z.h a4
                     have a5':=fun (z:After wz) => wkeep z.h a5
                     have a6':=fun (z:After wz) => wkeep z.h a6
                     have a7':=fun (z:After wz) => wkeep z.h a7
                     have a8':=fun (z:After wz) => wkeep z.h a8
                     have a9':=fun (z:After wz) => wkeep z.h a9
                     have a10':=fun (z:After wz) => wkeep z.h a10
                     have b0':=fun (z:After wz) => wkeep z.h b0
                     have b1':=fun (z:After wz) => wkeep z.h b1
                     have b2':=fun (z:After wz) => wkeep z.h b2
                     have b3':=fun (z:After wz) => wkeep z.h b3
                     have b4':=fun (z:After wz) => wkeep z.h b4
                     have b5':=fun (z:After wz) => wkeep z.h b5
                     have b6':=fun (z:After wz) => wkeep z.h b6
                     have b7':=fun (z:After wz) => wkeep z.h b7
                     have b8':=fun (z:After wz) => wkeep z.h b8
                     have b9':=fun (z:After wz) => wkeep z.h b9
                     have b10':=fun (z:After wz) => wkeep z.h b10
                     have HK2:=Lib.hid K2
                     clear K2 a0 a1 a2 a3 a4 a5 a6 a7 a8 a9 a10 b0 b1 b2 b3 b4 b5 b6 b7 b8 b9 b10
                     go_upto_region 23 with (fail)
                     refine wp_region_after (by kernel_rfl) (by kernel_rfl) (Wider.refl wz) ?_
                     repeat (go_big_quiet_step (first | (go_at_call 25; with_reducible exact quiet_after (zq _))))
                     refine wpQuiet_nil ?_
                     rintro _ ⟨z2,rfl⟩
                     have K3:=HK2.out.quiet z2.h
                     clear zq a0' a1' a2' a3' a4' a5' a6' a7' a8' a9' a10' b0' b1' b2' b3' b4' b5' b6' b7' b8' b9' b10'
                     go_wp2
                     go_roundw
                     case rel => exact ⟨i,k + 1,j + 1,by omega,rfl,by go_num,by go_num,HN2,K3⟩
                     case measure => simp [intOf]; omega
                   · have i1:¬ (i:Int) < (ou:Int):=by omega
                     have hra:=fun (z:After wr) => ra.on z.h
                     have hrr:=fun (z:After wr) => rr.on z.h
                     clear K so sl sr tg ra rr hE1 hG2 hE3 l1 l2 l3 hou hru h1 h2 hx ka kr
                     obtain ⟨xtb,xkey,xoth,xln,xpr,xbk,xargs,xidle,xhard,xck,xtl⟩:=x
                     have a0':=fun (z:After wr) => wkeep z.h a0
                     have a1':=fun (z:After wr) => wkeep z.h a1
                     have a2':=fun (z:After wr) => wkeep z.h a2
                     have a3':=fun (z:After wr) => wkeep z.h a3
                     have a4':=fun (z:After wr) => wkeep z.h a4
                     have a5':=fun (z:After wr) => wkeep z.h a5
                     have a6':=fun (z:After wr) => wkeep z.h a6
                     have a7':=fun (z:After wr) => wkeep z.h a7
                     have a8':=fun (z:After wr) => wkeep z.h a8
                     have a9':=fun (z:After wr) => wkeep z.h a9
                     have a10':=fun (z:After wr) => wkeep z.h a10
                     have b0':=fun (z:After wr) => wkeep z.h b0
                     have b1':=fun (z:After wr) => wkeep z.h b1
                     have b2':=fun (z:After wr) => wkeep z.h b2
                     have b3':=fun (z:After wr) => wkeep z.h b3
                     have b4':=fun (z:After wr) => wkeep z.h b4
                     have b5':=fun (z:After wr) => wkeep z.h b5
                     have b6':=fun (z:After wr) => wkeep z.h b6
                     have b7':=fun (z:After wr) => wkeep z.h b7
                     have b8':=fun (z:After wr) => wkeep z.h b8
                     have b9':=fun (z:After wr) => wkeep z.h b9
                     have b10':=fun (z:After wr) => wkeep z.h b10
                     clear a0 a1 a2 a3 a4 a5 a6 a7 a8 a9 a10 b0 b1 b2 b3 b4 b5 b6 b7 b8 b9 b10
                     go_upto_region 19 with (fail)
                     refine wp_region_after (by kernel_rfl) (by kernel_rfl) (Wider.refl wr) ?_
                     repeat (go_big_quiet_step (fail))
                     refine wpQuiet_nil ?_
                     rintro _ ⟨z,rfl⟩
                     have K2:=HK.out.quiet z.h
                     have ra:=hra z
                     have rr:=hrr z
                     have a0:=a0' z
                     have a1:=a1' z
                     have a2:=a2' z
                     have a3:=a3' z
                     have a4:=a4' z
                     have a5:=a5' z
                     have a6:=a6' z
                     have a7:=a7' z
                     have a8:=a8' z
                     have a9:=a9' z
                     have a10:=a10' z
                     have b0:=b0' z
                     have b1:=b1' z
                     have b2:=b2' z
                     have b3:=b3' z
                     have b4:=b4' z
                     have b5:=b5' z
                     have b6:=b6' z
                     have b7:=b7' z
                     have b8:=b8' z
                     have b9:=b9' z
                     have b10:=b10' z
                     obtain ⟨wz,hwz⟩ : ∃ W,z.w = W:=⟨_,rfl⟩
                     rw [hwz] at K2 ra rr a0 a1 a2 a3 a4 a5 a6 a7 a8 a9 a10 b0 b1 b2 b3 b4 b5 b6 b7 b8 b9 b10 ⊢
                     have zq:=fun (z:After wz) => ysame_c ⟨xtb,xkey,xoth,xln,xpr,xbk,xargs,xidle,xhard,xck,xtl⟩ ⟨xtb,xkey,xoth,xln,xpr,xbk,xargs,xidle,xhard,xck,xtl⟩ (cap:=cr) (cap2:=ca) z.w (rr.on z.h) (ra.on z.h) hnr4 (decide_eq_true rfl)
                     clear hra hrr hwz ra rr a0' a1' a2' a3' a4' a5' a6' a7' a8' a9' a10' b0' b1' b2' b3' b4' b5' b6' b7' b8' b9' b10'
                     have a0':=fun (z:After wz) => wkeep z.h a0
                     have a1':=fun (z:After wz) => wkeep z.h a1
                     have a2':=fun (z:After wz) => wkeep z.h a2
                     have a3':=fun (z:After wz) => wkeep z.h a3
                     have a4':=fun (z:After wz) => wkeep z.h a4
                     have a5':=fun (z:After wz) => wkeep z.h a5
                     have a6':=fun (z:After wz) => wkeep z.h a6
                     have a7':=fun (z:After wz) => wkeep z.h a7
                     have a8':=fun (z:After wz) => wkeep z.h a8
                     have a9':=fun (z:After wz) => wkeep z.h a9
                     have a10':=fun (z:After wz) => wkeep z.h a10
                     have b0':=fun (z:After wz) => wkeep z.h b0
                     have b1':=fun (z:After wz) => wkeep z.h b1
                     have b2':=fun (z:After wz) => wkeep z.h b2
                     have b3':=fun (z:After wz) => wkeep z.h b3
                     have b4':=fun (z:After wz) => wkeep z.h b4
                     have b5':=fun (z:After wz) => wkeep z.h b5
                     have b6':=fun (z:After wz) => wkeep z.h b6
                     have b7':=fun (z:After wz) => wkeep z.h b7
                     have b8':=fun (z:After wz) => wkeep z.h b8
                     have b9':=fun (z:After wz) => wkeep z.h b9
                     have b10':=fun (z:After wz) => wkeep z.h b10
                     have HK2:=Lib.hid K2
                     clear K2 a0 a1 a2 a3 a4 a5 a6 a7 a8 a9 a10 b0 b1 b2 b3 b4 b5 b6 b7 b8 b9 b10
                     go_upto_region 23 with (fail)
                     refine wp_region_after (by kernel_rfl) (by kernel_rfl) (Wider.refl wz) ?_
                     repeat (go_big_quiet_step (first | (go_at_call 25; with_reducible exact quiet_after (zq _))))
                     refine wpQuiet_nil ?_
                     rintro _ ⟨z2,rfl⟩
                     have K3:=HK2.out.quiet z2.h
                     clear zq a0' a1' a2' a3' a4' a5' a6' a7' a8' a9' a10' b0' b1' b2' b3' b4' b5' b6' b7' b8' b9' b10'
                     go_wp2
                     go_roundw
                     case rel => exact ⟨i,k + 1,j + 1,by omega,rfl,by go_num,by go_num,HN2,K3⟩
                     case measure => simp [intOf]; omega
               · obtain rfl:j = m:=by omega
                 have j1:¬ (j:Int) < (j:Int):=by omega
                 obtain ⟨hE1,hG2,hE3,l1,l2,l3,hou,hru⟩:=HF.out
                 have h1:=HI.out
                 rw [List.take_of_length_le (by rw [HM.out]; exact Nat.le_refl _),hou,hru] at h1
                 obtain ⟨rfl,rfl⟩:=h1
                 obtain ⟨d2,is2,hd2,zd2⟩:=ydue_c K
                 have zd2:=zd2 wr (Wider.refl wr)
                 have hlast:=rest_due hd2
                 have zx2:=fun (W:World) (g:Wider wr W) => yexpire_c (K.quiet g) HN9.out now (n:=0) (by rw [rest_out]; rfl)
                 have G9:=Wider.refl wr
                 have HK9:=Lib.hid K
                 have v1:((ou:Int) == (ou:Int)) = true:=beq_self_eq_true _
                 have v2:((ru:Int) == (ru:Int)) = true:=beq_self_eq_true _
                 have hcl:clampT now = max 0 (min now 1099511627776):=rfl
                 have hmm:(if (if now < 0 then 0 else now) < 1099511627776 then (if now < 0 then 0 else now) else 1099511627776) = clampT now:=by rw [hcl]; split <;> split <;> omega
                 cases is2 with
                 | false =>
                   clear hd2 hlast K hE1 hG2 hE3 l1 l2 l3 hou hru hcl
                   go_wp2_with (first
                    | (go_at_call 15; ((with_reducible refine zd2.mono ?_); rintro e w24 ⟨rfl,g⟩; replace G9:=G9.trans g; clear zd2 g))
                    | (go_at_call 17; ((with_reducible refine (zx2 _ G9).mono ?_); rintro e w25 ⟨B4,c4,G4,rfl,_,K10⟩; clear zx2)))
                   go_ret
                   exact ⟨rfl,K10.wider⟩
                 | true =>
                   have hlt:clampT now < d2:=by
                    rcases hlast with h | h
                    · cases h
                    · exact h
                   clear hd2 hlast K hE1 hG2 hE3 l1 l2 l3 hou hru hcl
                   go_wp2_with (first
                    | (go_at_call 15; ((with_reducible refine zd2.mono ?_); rintro e w24 ⟨rfl,g⟩; replace G9:=G9.trans g; clear zd2 g))
                    | (go_at_call 17; ((with_reducible refine (zx2 _ G9).mono ?_); rintro e w25 ⟨B4,c4,G4,rfl,_,K10⟩; clear zx2)))
                   all_goals
                    go_ret
                    refine ⟨congrArg (fun q => Ending.returned (.bool q)) (decide_eq_true (by unfold clampT at hlt; omega)),K10.wider⟩
           · obtain ⟨u,hu⟩ : ∃ u,(outT (clampT (d - 1)) s.L).length = u:=⟨_,rfl⟩
             have zx:=fun (W:World) (T:Nat) (k:StoreTwo w W [] T s S s) => ycopyx_c k HN9.out (d - 1) hu
             by_cases u0:u = 0
             · subst u0
               clear hd hdm hu d1
               go_upto_region 11 with (first
                | (go_at_call 15; ((with_reducible refine zd.mono ?_); rintro e w4 ⟨rfl,g⟩; have K1:=K.quiet g; clear zd g K))
                | (go_at_call 20; ((with_reducible refine (zc _ K1).mono ?_); rintro e w5 ⟨T1,rfl,K2⟩; clear K1))
                | (go_at_call 17; ((with_reducible refine (zx _ _ K2).mono ?_); rintro e w6 ⟨Bq,e1,rfl,K3⟩; clear K2 zx)))
               have K9:=K3
               clear K3
               clear zc w1
               as_aux_lemma =>
                obtain ⟨ou,hou⟩ : ∃ k,(outT (clampT now) s.L).length = k:=⟨_,rfl⟩
                obtain ⟨ru,hru⟩ : ∃ k,(restT (clampT now) s.L).length = k:=⟨_,rfl⟩
                have za:=fun (W:World) (k:StoreIs w W [] S s) => yents_c k HM.out
                have zx:=fun {R:List Thing} (W:World) (k:StoreIs w W R S s) => yexpire_c k HN9.out now hou
                have zb:=fun {R:List Thing} (W:World) (k:StoreIs w W R S { s with L:=restT (clampT now) s.L }) => yents_c k hru
                have oum:ou ≤ m:=by rw [← hou,← HM.out]; unfold outT; rw [List.length_map]; exact List.length_filter_le _ _
                have rum:ru ≤ m:=by rw [← hru,← HM.out]; exact List.length_filter_le _ _
                have m256:m ≤ 256:=by have:=HGD.out.l.len; have:=HGD.out.c2; have:=HM.out; omega
                go_upto_region 14 with (first
                 | (go_at_call 18; ((with_reducible refine (za _ K9).mono ?_); rintro e w21 ⟨B1,c1,E1,rfl,hE1,KA1⟩; clear K9 za))
                 | (go_at_call 17; ((with_reducible refine (zx _ KA1).mono ?_); rintro e w22 ⟨B2,c2,G2,rfl,hG2,KA2⟩; clear KA1 zx))
                 | (go_at_call 18; ((with_reducible refine (zb _ KA2).mono ?_); rintro e w23 ⟨B3,c3,E3,rfl,hE3,KA3⟩; clear KA2 zb)))
                have l1:E1.length = m:=by rw [← HM.out,← List.length_map (f:=fun h:HeldM => h.x),← hE1,List.length_map]
                have l2:G2.length = ou:=by rw [← hou,← hG2,List.length_map]
                have l3:E3.length = ru:=by rw [← hru,← List.length_map (f:=fun h:HeldM => h.x),← hE3,List.length_map]
                have HF:=Lib.hid (And.intro hE1 (And.intro hG2 (And.intro hE3 (And.intro l1 (And.intro l2 (And.intro l3 (And.intro hou hru)))))))
                clear hE1 hG2 hE3 l1 l2 l3 hou hru
                go_wp2
                go_loopw [15,16,17] (fun a b c wr => ∃ (i k j:Nat),j ≤ m ∧ a = .int .i64 (i:Int) ∧ b = .int .i64 (k:Int) ∧ c = .int .i64 (j:Int) ∧ Hid ((outT (clampT now) (s.L.take j)).length = i ∧ (restT (clampT now) (s.L.take j)).length = k) ∧ StoreIs w wr (entsT (.slice B3 ru c3) ru E3 ++ (gonesT (.slice B2 ou c2) ou G2 ++ (entsT (.slice B1 m c1) m E1 ++ []))) S { s with L:=restT (clampT now) s.L }) (fun _ _ c _ => m - (intOf c).toNat)
                case atStart => exact ⟨0,0,0,Nat.zero_le _,rfl,rfl,rfl,Lib.hid ⟨rfl,rfl⟩,KA3⟩
                case round =>
                 clear KA3
                 obtain ⟨i,k,j,hj,rfl,rfl,rfl,HI,K⟩:=hrel
                 have j0:(0:Int) ≤ (j:Int):=by omega
                 have i0:(0:Int) ≤ (i:Int):=by omega
                 have k0:(0:Int) ≤ (k:Int):=by omega
                 by_cases dj:j < m
                 · have j1:(j:Int) < (m:Int):=by omega
                   obtain ⟨⟨x,xp,xf⟩,hx⟩ : ∃ h,s.L[j]? = some h:=⟨s.L[j]'(by rw [HM.out]; exact dj),List.getElem?_eq_getElem _⟩
                   obtain ⟨hE1,hG2,hE3,l1,l2,l3,hou,hru⟩:=HF.out
                   obtain ⟨h1,h2⟩:=HI.out
                   obtain ⟨Bk,eB,ka⟩:=ents_at K.rest (fun t ht => List.mem_append_right _ (List.mem_append_right _ (List.mem_append_left _ ht))) l1 j x (by rw [hE1,List.getElem?_map,hx]; rfl)
                   subst eB
                   obtain ⟨Aa,na,ca,hna,ra,a0,a1,a2,a3,a4,a5,a6,a7,a8,a9,a10⟩:=ka.cells
                   have hna4:na < 1000000:=by
                    have:=HGD.out.may _ (List.mem_of_getElem? hx)
                    unfold mayT at this
                    have:=(of_decide_eq_true (Bool.and_eq_true_iff.1 this).1).2.2.2.1
                    have:x.args.length ≤ 4:=this
                    omega
                   rcases tagT_cases (clampT now) ⟨x,xp,xf⟩ with ⟨tg,th,_⟩ | ⟨tg,th,_⟩ | ⟨tg,_⟩
                   · have tne:tagT (clampT now) ⟨x,xp,xf⟩ ≠ 0:=by rw [tg]; decide
                     obtain ⟨so,sl,sr⟩:=step_out hx tne
                     rw [h1,tg] at so
                     have HN2:=Lib.hid (show (outT (clampT now) (s.L.take (j + 1))).length = i + 1 ∧ (restT (clampT now) (s.L.take (j + 1))).length = k from ⟨by rw [sl,h1],by rw [sr,h2]⟩)
                     have iou:i < ou:=by rw [← hou]; exact (List.getElem?_eq_some_iff.1 so).1
                     have i1:(i:Int) < (ou:Int):=by omega
                     obtain ⟨Bg,eG,kg⟩:=gones_at K.rest (fun t ht => List.mem_append_right _ (List.mem_append_left _ ht)) l2 (j:=i) (x:=x) (tag:=1) (by rw [hG2]; exact so)
                     subst eG
                     obtain ⟨⟨Ag,ng,cg,hng,rg,g0,g1,g2,g3,g4,g5,g6,g7,g8,g9,g10⟩,gt⟩:=kg
                     have zs:=fun (z:After wr) => ysame_c x x (cap:=cg) (cap2:=ca) z.w (rg.on z.h) (ra.on z.h) (by omega) (decide_eq_true rfl)
                     obtain ⟨xtb,xkey,xoth,xln,xpr,xbk,xargs,xidle,xhard,xck,xtl⟩:=x
                     have zt:(xhard == 0) = false:=by rw [beq_eq_false_iff_ne]; have:0 < xhard:=th; omega
                     have a0':=fun (z:After wr) => wkeep z.h a0
                     have a1':=fun (z:After wr) => wkeep z.h a1
                     have a2':=fun (z:After wr) => wkeep z.h a2
                     have a3':=fun (z:After wr) => wkeep z.h a3
                     have a4':=fun (z:After wr) => wkeep z.h a4
                     have a5':=fun (z:After wr) => wkeep z.h a5
                     have a6':=fun (z:After wr) => wkeep z.h a6
                     have a7':=fun (z:After wr) => wkeep z.h a7
                     have a8':=fun (z:After wr) => wkeep z.h a8
                     have a9':=fun (z:After wr) => wkeep z.h a9
                     have a10':=fun (z:After wr) => wkeep z.h a10
                     have g0':=fun (z:After wr) => wkeep z.h g0
                     have g1':=fun (z:After wr) => wkeep z.h g1
                     have g2':=fun (z:After wr) => wkeep z.h g2
                     have g3':=fun (z:After wr) => wkeep z.h g3
                     have g4':=fun (z:After wr) => wkeep z.h g4
                     have g5':=fun (z:After wr) => wkeep z.h g5
                     have g6':=fun (z:After wr) => wkeep z.h g6
                     have g7':=fun (z:After wr) => wkeep z.h g7
                     have g8':=fun (z:After wr) => wkeep z.h g8
                     have g9':=fun (z:After wr) => wkeep z.h g9
                     have g10':=fun (z:After wr) => wkeep z.h g10
                     have gt':=fun (z:After wr) => wkeep z.h gt
                     have HK:=Lib.hid K
                     clear K so sl sr tne tg th ra rg hE1 hG2 hE3 l1 l2 l3 hou hru h1 h2 hx hna hng ka a0 a1 a2 a3 a4 a5 a6 a7 a8 a9 a10 g0 g1 g2 g3 g4 g5 g6 g7 g8 g9 g10 gt
                     go_upto_region 19 with (fail)
                     refine wp_region_after (by kernel_rfl) (by kernel_rfl) (Wider.refl wr) ?_
                     repeat (go_big_quiet_step (first | (go_at_call 25; with_reducible exact quiet_after (zs _))))
                     refine wpQuiet_nil ?_
                     rintro _ ⟨z,rfl⟩
                     have K2:=HK.out.quiet z.h
                     have ga:=gt' z
                     have ha:=a8' z
                     clear zs a0' a1' a2' a3' a4' a5' a6' a7' a8' a9' a10' g0' g1' g2' g3' g4' g5' g6' g7' g8' g9' g10' gt'
                     go_wp2
                     go_roundw
                     case rel => exact ⟨i + 1,k,j + 1,by omega,by go_num,rfl,by go_num,HN2,K2⟩
                     case measure => simp [intOf]; omega
                   · have tne:tagT (clampT now) ⟨x,xp,xf⟩ ≠ 0:=by rw [tg]; decide
                     obtain ⟨so,sl,sr⟩:=step_out hx tne
                     rw [h1,tg] at so
                     have HN2:=Lib.hid (show (outT (clampT now) (s.L.take (j + 1))).length = i + 1 ∧ (restT (clampT now) (s.L.take (j + 1))).length = k from ⟨by rw [sl,h1],by rw [sr,h2]⟩)
                     have iou:i < ou:=by rw [← hou]; exact (List.getElem?_eq_some_iff.1 so).1
                     have i1:(i:Int) < (ou:Int):=by omega
                     obtain ⟨Bg,eG,kg⟩:=gones_at K.rest (fun t ht => List.mem_append_right _ (List.mem_append_left _ ht)) l2 (j:=i) (x:=x) (tag:=2) (by rw [hG2]; exact so)
                     subst eG
                     obtain ⟨⟨Ag,ng,cg,hng,rg,g0,g1,g2,g3,g4,g5,g6,g7,g8,g9,g10⟩,gt⟩:=kg
                     have zs:=fun (z:After wr) => ysame_c x x (cap:=cg) (cap2:=ca) z.w (rg.on z.h) (ra.on z.h) (by omega) (decide_eq_true rfl)
                     obtain ⟨xtb,xkey,xoth,xln,xpr,xbk,xargs,xidle,xhard,xck,xtl⟩:=x
                     have zt:(xidle == 0) = false:=by rw [beq_eq_false_iff_ne]; have:0 < xidle:=th; omega
                     have a0':=fun (z:After wr) => wkeep z.h a0
                     have a1':=fun (z:After wr) => wkeep z.h a1
                     have a2':=fun (z:After wr) => wkeep z.h a2
                     have a3':=fun (z:After wr) => wkeep z.h a3
                     have a4':=fun (z:After wr) => wkeep z.h a4
                     have a5':=fun (z:After wr) => wkeep z.h a5
                     have a6':=fun (z:After wr) => wkeep z.h a6
                     have a7':=fun (z:After wr) => wkeep z.h a7
                     have a8':=fun (z:After wr) => wkeep z.h a8
                     have a9':=fun (z:After wr) => wkeep z.h a9
                     have a10':=fun (z:After wr) => wkeep z.h a10
                     have g0':=fun (z:After wr) => wkeep z.h g0
                     have g1':=fun (z:After wr) => wkeep z.h g1
                     have g2':=fun (z:After wr) => wkeep z.h g2
                     have g3':=fun (z:After wr) => wkeep z.h g3
                     have g4':=fun (z:After wr) => wkeep z.h g4
                     have g5':=fun (z:After wr) => wkeep z.h g5
                     have g6':=fun (z:After wr) => wkeep z.h g6
                     have g7':=fun (z:After wr) => wkeep z.h g7
                     have g8':=fun (z:After wr) => wkeep z.h g8
                     have g9':=fun (z:After wr) => wkeep z.h g9
                     have g10':=fun (z:After wr) => wkeep z.h g10
                     have gt':=fun (z:After wr) => wkeep z.h gt
                     have HK:=Lib.hid K
                     clear K so sl sr tne tg th ra rg hE1 hG2 hE3 l1 l2 l3 hou hru h1 h2 hx hna hng ka a0 a1 a2 a3 a4 a5 a6 a7 a8 a9 a10 g0 g1 g2 g3 g4 g5 g6 g7 g8 g9 g10 gt
                     go_upto_region 19 with (fail)
                     refine wp_region_after (by kernel_rfl) (by kernel_rfl) (Wider.refl wr) ?_
                     repeat (go_big_quiet_step (first | (go_at_call 25; with_reducible exact quiet_after (zs _))))
                     refine wpQuiet_nil ?_
                     rintro _ ⟨z,rfl⟩
                     have K2:=HK.out.quiet z.h
                     have ga:=gt' z
                     have ha:=a7' z
                     clear zs a0' a1' a2' a3' a4' a5' a6' a7' a8' a9' a10' g0' g1' g2' g3' g4' g5' g6' g7' g8' g9' g10' gt'
                     go_wp2
                     go_roundw
                     case rel => exact ⟨i + 1,k,j + 1,by omega,by go_num,rfl,by go_num,HN2,K2⟩
                     case measure => simp [intOf]; omega
                   · obtain ⟨so,sl,sr⟩:=step_rest hx tg
                     rw [h2] at so
                     have HN2:=Lib.hid (show (outT (clampT now) (s.L.take (j + 1))).length = i ∧ (restT (clampT now) (s.L.take (j + 1))).length = k + 1 from ⟨by rw [sr,h1],by rw [sl,h2]⟩)
                     have kru:k < ru:=by rw [← hru]; exact (List.getElem?_eq_some_iff.1 so).1
                     have k1:(k:Int) < (ru:Int):=by omega
                     obtain ⟨Br,eR,kr⟩:=ents_at K.rest (fun t ht => List.mem_append_left _ ht) l3 k x (by rw [hE3,List.getElem?_map,so]; rfl)
                     subst eR
                     obtain ⟨Ar,nr,cr,hnr,rr,b0,b1,b2,b3,b4,b5,b6,b7,b8,b9,b10⟩:=kr.cells
                     have HK:=Lib.hid K
                     have hnr4:nr < 1000000:=by omega
                     by_cases hio:i < ou
                     · have i1:(i:Int) < (ou:Int):=by omega
                       obtain ⟨⟨y,ty⟩,hy⟩ : ∃ y,(outT (clampT now) s.L)[i]? = some y:=⟨(outT (clampT now) s.L)[i]'(by rw [hou]; exact hio),List.getElem?_eq_getElem _⟩
                       have ne:y ≠ x:=not_out HGD.out.l hx tg hy
                       have hy4:y.args.length ≤ 4:=by
                        have mm:=List.mem_of_getElem? hy
                        unfold outT at mm
                        obtain ⟨q,hq,eq⟩:=List.mem_map.1 mm
                        have:=HGD.out.may q (List.mem_filter.1 hq).1
                        unfold mayT at this
                        have:=(of_decide_eq_true (Bool.and_eq_true_iff.1 this).1).2.2.2.1
                        have e:q.x = y:=(Prod.mk.inj eq).1
                        rw [← e]; exact this
                       obtain ⟨Bg,eG,kg⟩:=gones_at K.rest (fun t ht => List.mem_append_right _ (List.mem_append_left _ ht)) l2 (j:=i) (x:=y) (tag:=ty) (by rw [hG2]; exact hy)
                       subst eG
                       obtain ⟨⟨Ag,ng,cg,hng,rg,g0,g1,g2,g3,g4,g5,g6,g7,g8,g9,g10⟩,gt⟩:=kg
                       have zs:=fun (z:After wr) => ysame_c y x (cap:=cg) (cap2:=ca) z.w (rg.on z.h) (ra.on z.h) (by omega) (decide_eq_false ne)
                       have hra:=fun (z:After wr) => ra.on z.h
                       have hrr:=fun (z:After wr) => rr.on z.h
                       have HXE:=Lib.hid (show x = x from rfl)
                       obtain ⟨ytb,ykey,yoth,yln,ypr,ybk,yargs,yidle,yhard,yck,ytl⟩:=y
                       clear K so sl sr tg ra rg rr hE1 hG2 hE3 l1 l2 l3 hou hru h1 h2 hx hng ka kr hy ne
                       obtain ⟨xtb,xkey,xoth,xln,xpr,xbk,xargs,xidle,xhard,xck,xtl⟩:=x
                       have a0':=fun (z:After wr) => wkeep z.h a0
                       have a1':=fun (z:After wr) => wkeep z.h a1
                       have a2':=fun (z:After wr) => wkeep z.h a2
                       have a3':=fun (z:After wr) => wkeep z.h a3
                       have a4':=fun (z:After wr) => wkeep z.h a4
                       have a5':=fun (z:After wr) => wkeep z.h a5
                       have a6':=fun (z:After wr) => wkeep z.h a6
                       have a7':=fun (z:After wr) => wkeep z.h a7
                       have a8':=fun (z:After wr) => wkeep z.h a8
                       have a9':=fun (z:After wr) => wkeep z.h a9
                       have a10':=fun (z:After wr) => wkeep z.h a10
                       have b0':=fun (z:After wr) => wkeep z.h b0
                       have b1':=fun (z:After wr) => wkeep z.h b1
                       have b2':=fun (z:After wr) => wkeep z.h b2
                       have b3':=fun (z:After wr) => wkeep z.h b3
                       have b4':=fun (z:After wr) => wkeep z.h b4
                       have b5':=fun (z:After wr) => wkeep z.h b5
                       have b6':=fun (z:After wr) => wkeep z.h b6
                       have b7':=fun (z:After wr) => wkeep z.h b7
                       have b8':=fun (z:After wr) => wkeep z.h b8
                       have b9':=fun (z:After wr) => wkeep z.h b9
                       have b10':=fun (z:After wr) => wkeep z.h b10
                       have g0':=fun (z:After wr) => wkeep z.h g0
                       have g1':=fun (z:After wr) => wkeep z.h g1
                       have g2':=fun (z:After wr) => wkeep z.h g2
                       have g3':=fun (z:After wr) => wkeep z.h g3
                       have g4':=fun (z:After wr) => wkeep z.h g4
                       have g5':=fun (z:After wr) => wkeep z.h g5
                       have g6':=fun (z:After wr) => wkeep z.h g6
                       have g7':=fun (z:After wr) => wkeep z.h g7
                       have g8':=fun (z:After wr) => wkeep z.h g8
                       have g9':=fun (z:After wr) => wkeep z.h g9
                       have g10':=fun (z:After wr) => wkeep z.h g10
                       have gt':=fun (z:After wr) => wkeep z.h gt
                       clear a0 a1 a2 a3 a4 a5 a6 a7 a8 a9 a10 b0 b1 b2 b3 b4 b5 b6 b7 b8 b9 b10 g0 g1 g2 g3 g4 g5 g6 g7 g8 g9 g10 gt
                       go_upto_region 19 with (fail)
                       refine wp_region_after (by kernel_rfl) (by kernel_rfl) (Wider.refl wr) ?_
                       repeat (go_big_quiet_step (first | (go_at_call 25; with_reducible exact quiet_after (zs _))))
                       refine wpQuiet_nil ?_
                       rintro _ ⟨z,rfl⟩
                       have K2:=HK.out.quiet z.h
                       have ra:=hra z
                       have rr:=hrr z
                       have a0:=a0' z
                       have a1:=a1' z
                       have a2:=a2' z
                       have a3:=a3' z
                       have a4:=a4' z
                       have a5:=a5' z
                       have a6:=a6' z
                       have a7:=a7' z
                       have a8:=a8' z
                       have a9:=a9' z
                       have a10:=a10' z
                       have b0:=b0' z
                       have b1:=b1' z
                       have b2:=b2' z
                       have b3:=b3' z
                       have b4:=b4' z
                       have b5:=b5' z
                       have b6:=b6' z
                       have b7:=b7' z
                       have b8:=b8' z
                       have b9:=b9' z
                       have b10:=b10' z
                       obtain ⟨wz,hwz⟩ : ∃ W,z.w = W:=⟨_,rfl⟩
                       rw [hwz] at K2 ra rr a0 a1 a2 a3 a4 a5 a6 a7 a8 a9 a10 b0 b1 b2 b3 b4 b5 b6 b7 b8 b9 b10 ⊢
                       have zq:=fun (z:After wz) => ysame_c ⟨xtb,xkey,xoth,xln,xpr,xbk,xargs,xidle,xhard,xck,xtl⟩ ⟨xtb,xkey,xoth,xln,xpr,xbk,xargs,xidle,xhard,xck,xtl⟩ (cap:=cr) (cap2:=ca) z.w (rr.on z.h) (ra.on z.h) hnr4 (decide_eq_true rfl)
                       clear hra hrr hwz ra rr zs g0' g1' g2' g3' g4' g5' g6' g7' g8' g9' g10' gt' a0' a1' a2' a3' a4' a5' a6' a7' a8' a9' a10' b0' b1' b2' b3' b4' b5' b6' b7' b8' b9' b10'
                       have a0':=fun (z:After wz) => wkeep z.h a0
                       have a1':=fun (z:After wz) => wkeep z.h a1
                       have a2':=fun (z:After wz) => wkeep z.h a2
                       have a3':=fun (z:After wz) => wkeep z.h a3
                       have a4':=fun (z:After wz) => wkeep z.h a4
                       have a5':=fun (z:After wz) => wkeep z.h a5
                       have a6':=fun (z:After wz) => wkeep z.h a6
                       have a7':=fun (z:After wz) => wkeep z.h a7
                       have a8':=fun (z:After wz) => wkeep z.h a8
                       have a9':=fun (z:After wz) => wkeep z.h a9
                       have a10':=fun (z:After wz) => wkeep z.h a10
                       have b0':=fun (z:After wz) => wkeep z.h b0
                       have b1':=fun (z:After wz) => wkeep z.h b1
                       have b2':=fun (z:After wz) => wkeep z.h b2
                       have b3':=fun (z:After wz) => wkeep z.h b3
                       have b4':=fun (z:After wz) => wkeep z.h b4
                       have b5':=fun (z:After wz) => wkeep z.h b5
                       have b6':=fun (z:After wz) => wkeep z.h b6
                       have b7':=fun (z:After wz) => wkeep z.h b7
                       have b8':=fun (z:After wz) => wkeep z.h b8
                       have b9':=fun (z:After wz) => wkeep z.h b9
                       have b10':=fun (z:After wz) => wkeep z.h b10
                       have HK2:=Lib.hid K2
                       clear K2 a0 a1 a2 a3 a4 a5 a6 a7 a8 a9 a10 b0 b1 b2 b3 b4 b5 b6 b7 b8 b9 b10
                       go_upto_region 23 with (fail)
                       refine wp_region_after (by kernel_rfl) (by kernel_rfl) (Wider.refl wz) ?_
                       repeat (go_big_quiet_step (first | (go_at_call 25; with_reducible exact quiet_after (zq _))))
                       refine wpQuiet_nil ?_
                       rintro _ ⟨z2,rfl⟩
                       have K3:=HK2.out.quiet z2.h
                       clear zq a0' a1' a2' a3' a4' a5' a6' a7' a8' a9' a10' b0' b1' b2' b3' b4' b5' b6' b7' b8' b9' b10'
                       go_wp2
                       go_roundw
                       case rel => exact ⟨i,k + 1,j + 1,by omega,rfl,by go_num,by go_num,HN2,K3⟩
                       case measure => simp [intOf]; omega
                     · have i1:¬ (i:Int) < (ou:Int):=by omega
                       have hra:=fun (z:After wr) => ra.on z.h
                       have hrr:=fun (z:After wr) => rr.on z.h
                       clear K so sl sr tg ra rr hE1 hG2 hE3 l1 l2 l3 hou hru h1 h2 hx ka kr
                       obtain ⟨xtb,xkey,xoth,xln,xpr,xbk,xargs,xidle,xhard,xck,xtl⟩:=x
                       have a0':=fun (z:After wr) => wkeep z.h a0
                       have a1':=fun (z:After wr) => wkeep z.h a1
                       have a2':=fun (z:After wr) => wkeep z.h a2
                       have a3':=fun (z:After wr) => wkeep z.h a3
                       have a4':=fun (z:After wr) => wkeep z.h a4
                       have a5':=fun (z:After wr) => wkeep z.h a5
                       have a6':=fun (z:After wr) => wkeep z.h a6
                       have a7':=fun (z:After wr) => wkeep z.h a7
                       have a8':=fun (z:After wr) => wkeep z.h a8
                       have a9':=fun (z:After wr) => wkeep z.h a9
                       have a10':=fun (z:After wr) => wkeep z.h a10
                       have b0':=fun (z:After wr) => wkeep z.h b0
                       have b1':=fun (z:After wr) => wkeep z.h b1
                       have b2':=fun (z:After wr) => wkeep z.h b2
                       have b3':=fun (z:After wr) => wkeep z.h b3
                       have b4':=fun (z:After wr) => wkeep z.h b4
                       have b5':=fun (z:After wr) => wkeep z.h b5
                       have b6':=fun (z:After wr) => wkeep z.h b6
                       have b7':=fun (z:After wr) => wkeep z.h b7
                       have b8':=fun (z:After wr) => wkeep z.h b8
                       have b9':=fun (z:After wr) => wkeep z.h b9
                       have b10':=fun (z:After wr) => wkeep z.h b10
                       clear a0 a1 a2 a3 a4 a5 a6 a7 a8 a9 a10 b0 b1 b2 b3 b4 b5 b6 b7 b8 b9 b10
                       go_upto_region 19 with (fail)
                       refine wp_region_after (by kernel_rfl) (by kernel_rfl) (Wider.refl wr) ?_
                       repeat (go_big_quiet_step (fail))
                       refine wpQuiet_nil ?_
                       rintro _ ⟨z,rfl⟩
                       have K2:=HK.out.quiet z.h
                       have ra:=hra z
                       have rr:=hrr z
                       have a0:=a0' z
                       have a1:=a1' z
                       have a2:=a2' z
                       have a3:=a3' z
                       have a4:=a4' z
                       have a5:=a5' z
                       have a6:=a6' z
                       have a7:=a7' z
                       have a8:=a8' z
                       have a9:=a9' z
                       have a10:=a10' z
                       have b0:=b0' z
                       have b1:=b1' z
                       have b2:=b2' z
                       have b3:=b3' z
                       have b4:=b4' z
                       have b5:=b5' z
                       have b6:=b6' z
                       have b7:=b7' z
                       have b8:=b8' z
                       have b9:=b9' z
                       have b10:=b10' z
                       obtain ⟨wz,hwz⟩ : ∃ W,z.w = W:=⟨_,rfl⟩
                       rw [hwz] at K2 ra rr a0 a1 a2 a3 a4 a5 a6 a7 a8 a9 a10 b0 b1 b2 b3 b4 b5 b6 b7 b8 b9 b10 ⊢
                       have zq:=fun (z:After wz) => ysame_c ⟨xtb,xkey,xoth,xln,xpr,xbk,xargs,xidle,xhard,xck,xtl⟩ ⟨xtb,xkey,xoth,xln,xpr,xbk,xargs,xidle,xhard,xck,xtl⟩ (cap:=cr) (cap2:=ca) z.w (rr.on z.h) (ra.on z.h) hnr4 (decide_eq_true rfl)
                       clear hra hrr hwz ra rr a0' a1' a2' a3' a4' a5' a6' a7' a8' a9' a10' b0' b1' b2' b3' b4' b5' b6' b7' b8' b9' b10'
                       have a0':=fun (z:After wz) => wkeep z.h a0
                       have a1':=fun (z:After wz) => wkeep z.h a1
                       have a2':=fun (z:After wz) => wkeep z.h a2
                       have a3':=fun (z:After wz) => wkeep z.h a3
                       have a4':=fun (z:After wz) => wkeep z.h a4
                       have a5':=fun (z:After wz) => wkeep z.h a5
                       have a6':=fun (z:After wz) => wkeep z.h a6
                       have a7':=fun (z:After wz) => wkeep z.h a7
                       have a8':=fun (z:After wz) => wkeep z.h a8
                       have a9':=fun (z:After wz) => wkeep z.h a9
                       have a10':=fun (z:After wz) => wkeep z.h a10
                       have b0':=fun (z:After wz) => wkeep z.h b0
                       have b1':=fun (z:After wz) => wkeep z.h b1
                       have b2':=fun (z:After wz) => wkeep z.h b2
                       have b3':=fun (z:After wz) => wkeep z.h b3
                       have b4':=fun (z:After wz) => wkeep z.h b4
                       have b5':=fun (z:After wz) => wkeep z.h b5
                       have b6':=fun (z:After wz) => wkeep z.h b6
                       have b7':=fun (z:After wz) => wkeep z.h b7
                       have b8':=fun (z:After wz) => wkeep z.h b8
                       have b9':=fun (z:After wz) => wkeep z.h b9
                       have b10':=fun (z:After wz) => wkeep z.h b10
                       have HK2:=Lib.hid K2
                       clear K2 a0 a1 a2 a3 a4 a5 a6 a7 a8 a9 a10 b0 b1 b2 b3 b4 b5 b6 b7 b8 b9 b10
                       go_upto_region 23 with (fail)
                       refine wp_region_after (by kernel_rfl) (by kernel_rfl) (Wider.refl wz) ?_
                       repeat (go_big_quiet_step (first | (go_at_call 25; with_reducible exact quiet_after (zq _))))
                       refine wpQuiet_nil ?_
                       rintro _ ⟨z2,rfl⟩
                       have K3:=HK2.out.quiet z2.h
                       clear zq a0' a1' a2' a3' a4' a5' a6' a7' a8' a9' a10' b0' b1' b2' b3' b4' b5' b6' b7' b8' b9' b10'
                       go_wp2
                       go_roundw
                       case rel => exact ⟨i,k + 1,j + 1,by omega,rfl,by go_num,by go_num,HN2,K3⟩
                       case measure => simp [intOf]; omega
                 · obtain rfl:j = m:=by omega
                   have j1:¬ (j:Int) < (j:Int):=by omega
                   obtain ⟨hE1,hG2,hE3,l1,l2,l3,hou,hru⟩:=HF.out
                   have h1:=HI.out
                   rw [List.take_of_length_le (by rw [HM.out]; exact Nat.le_refl _),hou,hru] at h1
                   obtain ⟨rfl,rfl⟩:=h1
                   obtain ⟨d2,is2,hd2,zd2⟩:=ydue_c K
                   have zd2:=zd2 wr (Wider.refl wr)
                   have hlast:=rest_due hd2
                   have zx2:=fun (W:World) (g:Wider wr W) => yexpire_c (K.quiet g) HN9.out now (n:=0) (by rw [rest_out]; rfl)
                   have G9:=Wider.refl wr
                   have HK9:=Lib.hid K
                   have v1:((ou:Int) == (ou:Int)) = true:=beq_self_eq_true _
                   have v2:((ru:Int) == (ru:Int)) = true:=beq_self_eq_true _
                   have hcl:clampT now = max 0 (min now 1099511627776):=rfl
                   have hmm:(if (if now < 0 then 0 else now) < 1099511627776 then (if now < 0 then 0 else now) else 1099511627776) = clampT now:=by rw [hcl]; split <;> split <;> omega
                   cases is2 with
                   | false =>
                     clear hd2 hlast K hE1 hG2 hE3 l1 l2 l3 hou hru hcl
                     go_wp2_with (first
                      | (go_at_call 15; ((with_reducible refine zd2.mono ?_); rintro e w24 ⟨rfl,g⟩; replace G9:=G9.trans g; clear zd2 g))
                      | (go_at_call 17; ((with_reducible refine (zx2 _ G9).mono ?_); rintro e w25 ⟨B4,c4,G4,rfl,_,K10⟩; clear zx2)))
                     go_ret
                     exact ⟨rfl,K10.wider⟩
                   | true =>
                     have hlt:clampT now < d2:=by
                      rcases hlast with h | h
                      · cases h
                      · exact h
                     clear hd2 hlast K hE1 hG2 hE3 l1 l2 l3 hou hru hcl
                     go_wp2_with (first
                      | (go_at_call 15; ((with_reducible refine zd2.mono ?_); rintro e w24 ⟨rfl,g⟩; replace G9:=G9.trans g; clear zd2 g))
                      | (go_at_call 17; ((with_reducible refine (zx2 _ G9).mono ?_); rintro e w25 ⟨B4,c4,G4,rfl,_,K10⟩; clear zx2)))
                     all_goals
                      go_ret
                      refine ⟨congrArg (fun q => Ending.returned (.bool q)) (decide_eq_true (by unfold clampT at hlt; omega)),K10.wider⟩
             · have u1:((u:Int) != 0) = true:=by simp; omega
               have u2:((u:Int) == 0) = false:=by rw [beq_eq_false_iff_ne]; omega
               clear hd hdm hu d1 u0
               go_upto_region 11 with (first
                | (go_at_call 15; ((with_reducible refine zd.mono ?_); rintro e w4 ⟨rfl,g⟩; have K1:=K.quiet g; clear zd g K))
                | (go_at_call 20; ((with_reducible refine (zc _ K1).mono ?_); rintro e w5 ⟨T1,rfl,K2⟩; clear K1))
                | (go_at_call 17; ((with_reducible refine (zx _ _ K2).mono ?_); rintro e w6 ⟨Bq,e1,rfl,K3⟩; clear K2 zx)))
               have K9:=K3
               clear K3
               clear zc w1 u1 u2
               as_aux_lemma =>
                obtain ⟨ou,hou⟩ : ∃ k,(outT (clampT now) s.L).length = k:=⟨_,rfl⟩
                obtain ⟨ru,hru⟩ : ∃ k,(restT (clampT now) s.L).length = k:=⟨_,rfl⟩
                have za:=fun (W:World) (k:StoreIs w W [] S s) => yents_c k HM.out
                have zx:=fun {R:List Thing} (W:World) (k:StoreIs w W R S s) => yexpire_c k HN9.out now hou
                have zb:=fun {R:List Thing} (W:World) (k:StoreIs w W R S { s with L:=restT (clampT now) s.L }) => yents_c k hru
                have oum:ou ≤ m:=by rw [← hou,← HM.out]; unfold outT; rw [List.length_map]; exact List.length_filter_le _ _
                have rum:ru ≤ m:=by rw [← hru,← HM.out]; exact List.length_filter_le _ _
                have m256:m ≤ 256:=by have:=HGD.out.l.len; have:=HGD.out.c2; have:=HM.out; omega
                go_upto_region 14 with (first
                 | (go_at_call 18; ((with_reducible refine (za _ K9).mono ?_); rintro e w21 ⟨B1,c1,E1,rfl,hE1,KA1⟩; clear K9 za))
                 | (go_at_call 17; ((with_reducible refine (zx _ KA1).mono ?_); rintro e w22 ⟨B2,c2,G2,rfl,hG2,KA2⟩; clear KA1 zx))
                 | (go_at_call 18; ((with_reducible refine (zb _ KA2).mono ?_); rintro e w23 ⟨B3,c3,E3,rfl,hE3,KA3⟩; clear KA2 zb)))
                have l1:E1.length = m:=by rw [← HM.out,← List.length_map (f:=fun h:HeldM => h.x),← hE1,List.length_map]
                have l2:G2.length = ou:=by rw [← hou,← hG2,List.length_map]
                have l3:E3.length = ru:=by rw [← hru,← List.length_map (f:=fun h:HeldM => h.x),← hE3,List.length_map]
                have HF:=Lib.hid (And.intro hE1 (And.intro hG2 (And.intro hE3 (And.intro l1 (And.intro l2 (And.intro l3 (And.intro hou hru)))))))
                clear hE1 hG2 hE3 l1 l2 l3 hou hru
                go_wp2
                go_loopw [15,16,17] (fun a b c wr => ∃ (i k j:Nat),j ≤ m ∧ a = .int .i64 (i:Int) ∧ b = .int .i64 (k:Int) ∧ c = .int .i64 (j:Int) ∧ Hid ((outT (clampT now) (s.L.take j)).length = i ∧ (restT (clampT now) (s.L.take j)).length = k) ∧ StoreIs w wr (entsT (.slice B3 ru c3) ru E3 ++ (gonesT (.slice B2 ou c2) ou G2 ++ (entsT (.slice B1 m c1) m E1 ++ []))) S { s with L:=restT (clampT now) s.L }) (fun _ _ c _ => m - (intOf c).toNat)
                case atStart => exact ⟨0,0,0,Nat.zero_le _,rfl,rfl,rfl,Lib.hid ⟨rfl,rfl⟩,KA3⟩
                case round =>
                 clear KA3
                 obtain ⟨i,k,j,hj,rfl,rfl,rfl,HI,K⟩:=hrel
                 have j0:(0:Int) ≤ (j:Int):=by omega
                 have i0:(0:Int) ≤ (i:Int):=by omega
                 have k0:(0:Int) ≤ (k:Int):=by omega
                 by_cases dj:j < m
                 · have j1:(j:Int) < (m:Int):=by omega
                   obtain ⟨⟨x,xp,xf⟩,hx⟩ : ∃ h,s.L[j]? = some h:=⟨s.L[j]'(by rw [HM.out]; exact dj),List.getElem?_eq_getElem _⟩
                   obtain ⟨hE1,hG2,hE3,l1,l2,l3,hou,hru⟩:=HF.out
                   obtain ⟨h1,h2⟩:=HI.out
                   obtain ⟨Bk,eB,ka⟩:=ents_at K.rest (fun t ht => List.mem_append_right _ (List.mem_append_right _ (List.mem_append_left _ ht))) l1 j x (by rw [hE1,List.getElem?_map,hx]; rfl)
                   subst eB
                   obtain ⟨Aa,na,ca,hna,ra,a0,a1,a2,a3,a4,a5,a6,a7,a8,a9,a10⟩:=ka.cells
                   have hna4:na < 1000000:=by
                    have:=HGD.out.may _ (List.mem_of_getElem? hx)
                    unfold mayT at this
                    have:=(of_decide_eq_true (Bool.and_eq_true_iff.1 this).1).2.2.2.1
                    have:x.args.length ≤ 4:=this
                    omega
                   rcases tagT_cases (clampT now) ⟨x,xp,xf⟩ with ⟨tg,th,_⟩ | ⟨tg,th,_⟩ | ⟨tg,_⟩
                   · have tne:tagT (clampT now) ⟨x,xp,xf⟩ ≠ 0:=by rw [tg]; decide
                     obtain ⟨so,sl,sr⟩:=step_out hx tne
                     rw [h1,tg] at so
                     have HN2:=Lib.hid (show (outT (clampT now) (s.L.take (j + 1))).length = i + 1 ∧ (restT (clampT now) (s.L.take (j + 1))).length = k from ⟨by rw [sl,h1],by rw [sr,h2]⟩)
                     have iou:i < ou:=by rw [← hou]; exact (List.getElem?_eq_some_iff.1 so).1
                     have i1:(i:Int) < (ou:Int):=by omega
                     obtain ⟨Bg,eG,kg⟩:=gones_at K.rest (fun t ht => List.mem_append_right _ (List.mem_append_left _ ht)) l2 (j:=i) (x:=x) (tag:=1) (by rw [hG2]; exact so)
                     subst eG
                     obtain ⟨⟨Ag,ng,cg,hng,rg,g0,g1,g2,g3,g4,g5,g6,g7,g8,g9,g10⟩,gt⟩:=kg
                     have zs:=fun (z:After wr) => ysame_c x x (cap:=cg) (cap2:=ca) z.w (rg.on z.h) (ra.on z.h) (by omega) (decide_eq_true rfl)
                     obtain ⟨xtb,xkey,xoth,xln,xpr,xbk,xargs,xidle,xhard,xck,xtl⟩:=x
                     have zt:(xhard == 0) = false:=by rw [beq_eq_false_iff_ne]; have:0 < xhard:=th; omega
                     have a0':=fun (z:After wr) => wkeep z.h a0
                     have a1':=fun (z:After wr) => wkeep z.h a1
                     have a2':=fun (z:After wr) => wkeep z.h a2
                     have a3':=fun (z:After wr) => wkeep z.h a3
                     have a4':=fun (z:After wr) => wkeep z.h a4
                     have a5':=fun (z:After wr) => wkeep z.h a5
                     have a6':=fun (z:After wr) => wkeep z.h a6
                     have a7':=fun (z:After wr) => wkeep z.h a7
                     have a8':=fun (z:After wr) => wkeep z.h a8
                     have a9':=fun (z:After wr) => wkeep z.h a9
                     have a10':=fun (z:After wr) => wkeep z.h a10
                     have g0':=fun (z:After wr) => wkeep z.h g0
                     have g1':=fun (z:After wr) => wkeep z.h g1
                     have g2':=fun (z:After wr) => wkeep z.h g2
                     have g3':=fun (z:After wr) => wkeep z.h g3
                     have g4':=fun (z:After wr) => wkeep z.h g4
                     have g5':=fun (z:After wr) => wkeep z.h g5
                     have g6':=fun (z:After wr) => wkeep z.h g6
                     have g7':=fun (z:After wr) => wkeep z.h g7
                     have g8':=fun (z:After wr) => wkeep z.h g8
                     have g9':=fun (z:After wr) => wkeep z.h g9
                     have g10':=fun (z:After wr) => wkeep z.h g10
                     have gt':=fun (z:After wr) => wkeep z.h gt
                     have HK:=Lib.hid K
                     clear K so sl sr tne tg th ra rg hE1 hG2 hE3 l1 l2 l3 hou hru h1 h2 hx hna hng ka a0 a1 a2 a3 a4 a5 a6 a7 a8 a9 a10 g0 g1 g2 g3 g4 g5 g6 g7 g8 g9 g10 gt
                     go_upto_region 19 with (fail)
                     refine wp_region_after (by kernel_rfl) (by kernel_rfl) (Wider.refl wr) ?_
                     repeat (go_big_quiet_step (first | (go_at_call 25; with_reducible exact quiet_after (zs _))))
                     refine wpQuiet_nil ?_
                     rintro _ ⟨z,rfl⟩
                     have K2:=HK.out.quiet z.h
                     have ga:=gt' z
                     have ha:=a8' z
                     clear zs a0' a1' a2' a3' a4' a5' a6' a7' a8' a9' a10' g0' g1' g2' g3' g4' g5' g6' g7' g8' g9' g10' gt'
                     go_wp2
                     go_roundw
                     case rel => exact ⟨i + 1,k,j + 1,by omega,by go_num,rfl,by go_num,HN2,K2⟩
                     case measure => simp [intOf]; omega
                   · have tne:tagT (clampT now) ⟨x,xp,xf⟩ ≠ 0:=by rw [tg]; decide
                     obtain ⟨so,sl,sr⟩:=step_out hx tne
                     rw [h1,tg] at so
                     have HN2:=Lib.hid (show (outT (clampT now) (s.L.take (j + 1))).length = i + 1 ∧ (restT (clampT now) (s.L.take (j + 1))).length = k from ⟨by rw [sl,h1],by rw [sr,h2]⟩)
                     have iou:i < ou:=by rw [← hou]; exact (List.getElem?_eq_some_iff.1 so).1
                     have i1:(i:Int) < (ou:Int):=by omega
                     obtain ⟨Bg,eG,kg⟩:=gones_at K.rest (fun t ht => List.mem_append_right _ (List.mem_append_left _ ht)) l2 (j:=i) (x:=x) (tag:=2) (by rw [hG2]; exact so)
                     subst eG
                     obtain ⟨⟨Ag,ng,cg,hng,rg,g0,g1,g2,g3,g4,g5,g6,g7,g8,g9,g10⟩,gt⟩:=kg
                     have zs:=fun (z:After wr) => ysame_c x x (cap:=cg) (cap2:=ca) z.w (rg.on z.h) (ra.on z.h) (by omega) (decide_eq_true rfl)
                     obtain ⟨xtb,xkey,xoth,xln,xpr,xbk,xargs,xidle,xhard,xck,xtl⟩:=x
                     have zt:(xidle == 0) = false:=by rw [beq_eq_false_iff_ne]; have:0 < xidle:=th; omega
                     have a0':=fun (z:After wr) => wkeep z.h a0
                     have a1':=fun (z:After wr) => wkeep z.h a1
                     have a2':=fun (z:After wr) => wkeep z.h a2
                     have a3':=fun (z:After wr) => wkeep z.h a3
                     have a4':=fun (z:After wr) => wkeep z.h a4
                     have a5':=fun (z:After wr) => wkeep z.h a5
                     have a6':=fun (z:After wr) => wkeep z.h a6
                     have a7':=fun (z:After wr) => wkeep z.h a7
                     have a8':=fun (z:After wr) => wkeep z.h a8
                     have a9':=fun (z:After wr) => wkeep z.h a9
                     have a10':=fun (z:After wr) => wkeep z.h a10
                     have g0':=fun (z:After wr) => wkeep z.h g0
                     have g1':=fun (z:After wr) => wkeep z.h g1
                     have g2':=fun (z:After wr) => wkeep z.h g2
                     have g3':=fun (z:After wr) => wkeep z.h g3
                     have g4':=fun (z:After wr) => wkeep z.h g4
                     have g5':=fun (z:After wr) => wkeep z.h g5
                     have g6':=fun (z:After wr) => wkeep z.h g6
                     have g7':=fun (z:After wr) => wkeep z.h g7
                     have g8':=fun (z:After wr) => wkeep z.h g8
                     have g9':=fun (z:After wr) => wkeep z.h g9
                     have g10':=fun (z:After wr) => wkeep z.h g10
                     have gt':=fun (z:After wr) => wkeep z.h gt
                     have HK:=Lib.hid K
                     clear K so sl sr tne tg th ra rg hE1 hG2 hE3 l1 l2 l3 hou hru h1 h2 hx hna hng ka a0 a1 a2 a3 a4 a5 a6 a7 a8 a9 a10 g0 g1 g2 g3 g4 g5 g6 g7 g8 g9 g10 gt
                     go_upto_region 19 with (fail)
                     refine wp_region_after (by kernel_rfl) (by kernel_rfl) (Wider.refl wr) ?_
                     repeat (go_big_quiet_step (first | (go_at_call 25; with_reducible exact quiet_after (zs _))))
                     refine wpQuiet_nil ?_
                     rintro _ ⟨z,rfl⟩
                     have K2:=HK.out.quiet z.h
                     have ga:=gt' z
                     have ha:=a7' z
                     clear zs a0' a1' a2' a3' a4' a5' a6' a7' a8' a9' a10' g0' g1' g2' g3' g4' g5' g6' g7' g8' g9' g10' gt'
                     go_wp2
                     go_roundw
                     case rel => exact ⟨i + 1,k,j + 1,by omega,by go_num,rfl,by go_num,HN2,K2⟩
                     case measure => simp [intOf]; omega
                   · obtain ⟨so,sl,sr⟩:=step_rest hx tg
                     rw [h2] at so
                     have HN2:=Lib.hid (show (outT (clampT now) (s.L.take (j + 1))).length = i ∧ (restT (clampT now) (s.L.take (j + 1))).length = k + 1 from ⟨by rw [sr,h1],by rw [sl,h2]⟩)
                     have kru:k < ru:=by rw [← hru]; exact (List.getElem?_eq_some_iff.1 so).1
                     have k1:(k:Int) < (ru:Int):=by omega
                     obtain ⟨Br,eR,kr⟩:=ents_at K.rest (fun t ht => List.mem_append_left _ ht) l3 k x (by rw [hE3,List.getElem?_map,so]; rfl)
                     subst eR
                     obtain ⟨Ar,nr,cr,hnr,rr,b0,b1,b2,b3,b4,b5,b6,b7,b8,b9,b10⟩:=kr.cells
                     have HK:=Lib.hid K
                     have hnr4:nr < 1000000:=by omega
                     by_cases hio:i < ou
                     · have i1:(i:Int) < (ou:Int):=by omega
                       obtain ⟨⟨y,ty⟩,hy⟩ : ∃ y,(outT (clampT now) s.L)[i]? = some y:=⟨(outT (clampT now) s.L)[i]'(by rw [hou]; exact hio),List.getElem?_eq_getElem _⟩
                       have ne:y ≠ x:=not_out HGD.out.l hx tg hy
                       have hy4:y.args.length ≤ 4:=by
                        have mm:=List.mem_of_getElem? hy
                        unfold outT at mm
                        obtain ⟨q,hq,eq⟩:=List.mem_map.1 mm
                        have:=HGD.out.may q (List.mem_filter.1 hq).1
                        unfold mayT at this
                        have:=(of_decide_eq_true (Bool.and_eq_true_iff.1 this).1).2.2.2.1
                        have e:q.x = y:=(Prod.mk.inj eq).1
                        rw [← e]; exact this
                       obtain ⟨Bg,eG,kg⟩:=gones_at K.rest (fun t ht => List.mem_append_right _ (List.mem_append_left _ ht)) l2 (j:=i) (x:=y) (tag:=ty) (by rw [hG2]; exact hy)
                       subst eG
                       obtain ⟨⟨Ag,ng,cg,hng,rg,g0,g1,g2,g3,g4,g5,g6,g7,g8,g9,g10⟩,gt⟩:=kg
                       have zs:=fun (z:After wr) => ysame_c y x (cap:=cg) (cap2:=ca) z.w (rg.on z.h) (ra.on z.h) (by omega) (decide_eq_false ne)
                       have hra:=fun (z:After wr) => ra.on z.h
                       have hrr:=fun (z:After wr) => rr.on z.h
                       have HXE:=Lib.hid (show x = x from rfl)
                       obtain ⟨ytb,ykey,yoth,yln,ypr,ybk,yargs,yidle,yhard,yck,ytl⟩:=y
                       clear K so sl sr tg ra rg rr hE1 hG2 hE3 l1 l2 l3 hou hru h1 h2 hx hng ka kr hy ne
                       obtain ⟨xtb,xkey,xoth,xln,xpr,xbk,xargs,xidle,xhard,xck,xtl⟩:=x
                       have a0':=fun (z:After wr) => wkeep z.h a0
                       have a1':=fun (z:After wr) => wkeep z.h a1
                       have a2':=fun (z:After wr) => wkeep z.h a2
                       have a3':=fun (z:After wr) => wkeep z.h a3
                       have a4':=fun (z:After wr) => wkeep z.h a4
                       have a5':=fun (z:After wr) => wkeep z.h a5
                       have a6':=fun (z:After wr) => wkeep z.h a6
                       have a7':=fun (z:After wr) => wkeep z.h a7
                       have a8':=fun (z:After wr) => wkeep z.h a8
                       have a9':=fun (z:After wr) => wkeep z.h a9
                       have a10':=fun (z:After wr) => wkeep z.h a10
                       have b0':=fun (z:After wr) => wkeep z.h b0
                       have b1':=fun (z:After wr) => wkeep z.h b1
                       have b2':=fun (z:After wr) => wkeep z.h b2
                       have b3':=fun (z:After wr) => wkeep z.h b3
                       have b4':=fun (z:After wr) => wkeep z.h b4
                       have b5':=fun (z:After wr) => wkeep z.h b5
                       have b6':=fun (z:After wr) => wkeep z.h b6
                       have b7':=fun (z:After wr) => wkeep z.h b7
                       have b8':=fun (z:After wr) => wkeep z.h b8
                       have b9':=fun (z:After wr) => wkeep z.h b9
                       have b10':=fun (z:After wr) => wkeep z.h b10
                       have g0':=fun (z:After wr) => wkeep z.h g0
                       have g1':=fun (z:After wr) => wkeep z.h g1
                       have g2':=fun (z:After wr) => wkeep z.h g2
                       have g3':=fun (z:After wr) => wkeep z.h g3
                       have g4':=fun (z:After wr) => wkeep z.h g4
                       have g5':=fun (z:After wr) => wkeep z.h g5
                       have g6':=fun (z:After wr) => wkeep z.h g6
                       have g7':=fun (z:After wr) => wkeep z.h g7
                       have g8':=fun (z:After wr) => wkeep z.h g8
                       have g9':=fun (z:After wr) => wkeep z.h g9
                       have g10':=fun (z:After wr) => wkeep z.h g10
                       have gt':=fun (z:After wr) => wkeep z.h gt
                       clear a0 a1 a2 a3 a4 a5 a6 a7 a8 a9 a10 b0 b1 b2 b3 b4 b5 b6 b7 b8 b9 b10 g0 g1 g2 g3 g4 g5 g6 g7 g8 g9 g10 gt
                       go_upto_region 19 with (fail)
                       refine wp_region_after (by kernel_rfl) (by kernel_rfl) (Wider.refl wr) ?_
                       repeat (go_big_quiet_step (first | (go_at_call 25; with_reducible exact quiet_after (zs _))))
                       refine wpQuiet_nil ?_
                       rintro _ ⟨z,rfl⟩
                       have K2:=HK.out.quiet z.h
                       have ra:=hra z
                       have rr:=hrr z
                       have a0:=a0' z
                       have a1:=a1' z
                       have a2:=a2' z
                       have a3:=a3' z
                       have a4:=a4' z
                       have a5:=a5' z
                       have a6:=a6' z
                       have a7:=a7' z
                       have a8:=a8' z
                       have a9:=a9' z
                       have a10:=a10' z
                       have b0:=b0' z
                       have b1:=b1' z
                       have b2:=b2' z
                       have b3:=b3' z
                       have b4:=b4' z
                       have b5:=b5' z
                       have b6:=b6' z
                       have b7:=b7' z
                       have b8:=b8' z
                       have b9:=b9' z
                       have b10:=b10' z
                       obtain ⟨wz,hwz⟩ : ∃ W,z.w = W:=⟨_,rfl⟩
                       rw [hwz] at K2 ra rr a0 a1 a2 a3 a4 a5 a6 a7 a8 a9 a10 b0 b1 b2 b3 b4 b5 b6 b7 b8 b9 b10 ⊢
                       have zq:=fun (z:After wz) => ysame_c ⟨xtb,xkey,xoth,xln,xpr,xbk,xargs,xidle,xhard,xck,xtl⟩ ⟨xtb,xkey,xoth,xln,xpr,xbk,xargs,xidle,xhard,xck,xtl⟩ (cap:=cr) (cap2:=ca) z.w (rr.on z.h) (ra.on z.h) hnr4 (decide_eq_true rfl)
                       clear hra hrr hwz ra rr zs g0' g1' g2' g3' g4' g5' g6' g7' g8' g9' g10' gt' a0' a1' a2' a3' a4' a5' a6' a7' a8' a9' a10' b0' b1' b2' b3' b4' b5' b6' b7' b8' b9' b10'
                       have a0':=fun (z:After wz) => wkeep z.h a0
                       have a1':=fun (z:After wz) => wkeep z.h a1
                       have a2':=fun (z:After wz) => wkeep z.h a2
                       have a3':=fun (z:After wz) => wkeep z.h a3
                       have a4':=fun (z:After wz) => wkeep z.h a4
                       have a5':=fun (z:After wz) => wkeep z.h a5
                       have a6':=fun (z:After wz) => wkeep z.h a6
                       have a7':=fun (z:After wz) => wkeep z.h a7
                       have a8':=fun (z:After wz) => wkeep z.h a8
                       have a9':=fun (z:After wz) => wkeep z.h a9
                       have a10':=fun (z:After wz) => wkeep z.h a10
                       have b0':=fun (z:After wz) => wkeep z.h b0
                       have b1':=fun (z:After wz) => wkeep z.h b1
                       have b2':=fun (z:After wz) => wkeep z.h b2
                       have b3':=fun (z:After wz) => wkeep z.h b3
                       have b4':=fun (z:After wz) => wkeep z.h b4
                       have b5':=fun (z:After wz) => wkeep z.h b5
                       have b6':=fun (z:After wz) => wkeep z.h b6
                       have b7':=fun (z:After wz) => wkeep z.h b7
                       have b8':=fun (z:After wz) => wkeep z.h b8
                       have b9':=fun (z:After wz) => wkeep z.h b9
                       have b10':=fun (z:After wz) => wkeep z.h b10
                       have HK2:=Lib.hid K2
                       clear K2 a0 a1 a2 a3 a4 a5 a6 a7 a8 a9 a10 b0 b1 b2 b3 b4 b5 b6 b7 b8 b9 b10
                       go_upto_region 23 with (fail)
                       refine wp_region_after (by kernel_rfl) (by kernel_rfl) (Wider.refl wz) ?_
                       repeat (go_big_quiet_step (first | (go_at_call 25; with_reducible exact quiet_after (zq _))))
                       refine wpQuiet_nil ?_
                       rintro _ ⟨z2,rfl⟩
                       have K3:=HK2.out.quiet z2.h
                       clear zq a0' a1' a2' a3' a4' a5' a6' a7' a8' a9' a10' b0' b1' b2' b3' b4' b5' b6' b7' b8' b9' b10'
                       go_wp2
                       go_roundw
                       case rel => exact ⟨i,k + 1,j + 1,by omega,rfl,by go_num,by go_num,HN2,K3⟩
                       case measure => simp [intOf]; omega
                     · have i1:¬ (i:Int) < (ou:Int):=by omega
                       have hra:=fun (z:After wr) => ra.on z.h
                       have hrr:=fun (z:After wr) => rr.on z.h
                       clear K so sl sr tg ra rr hE1 hG2 hE3 l1 l2 l3 hou hru h1 h2 hx ka kr
                       obtain ⟨xtb,xkey,xoth,xln,xpr,xbk,xargs,xidle,xhard,xck,xtl⟩:=x
                       have a0':=fun (z:After wr) => wkeep z.h a0
                       have a1':=fun (z:After wr) => wkeep z.h a1
                       have a2':=fun (z:After wr) => wkeep z.h a2
                       have a3':=fun (z:After wr) => wkeep z.h a3
                       have a4':=fun (z:After wr) => wkeep z.h a4
                       have a5':=fun (z:After wr) => wkeep z.h a5
                       have a6':=fun (z:After wr) => wkeep z.h a6
                       have a7':=fun (z:After wr) => wkeep z.h a7
                       have a8':=fun (z:After wr) => wkeep z.h a8
                       have a9':=fun (z:After wr) => wkeep z.h a9
                       have a10':=fun (z:After wr) => wkeep z.h a10
                       have b0':=fun (z:After wr) => wkeep z.h b0
                       have b1':=fun (z:After wr) => wkeep z.h b1
                       have b2':=fun (z:After wr) => wkeep z.h b2
                       have b3':=fun (z:After wr) => wkeep z.h b3
                       have b4':=fun (z:After wr) => wkeep z.h b4
                       have b5':=fun (z:After wr) => wkeep z.h b5
                       have b6':=fun (z:After wr) => wkeep z.h b6
                       have b7':=fun (z:After wr) => wkeep z.h b7
                       have b8':=fun (z:After wr) => wkeep z.h b8
                       have b9':=fun (z:After wr) => wkeep z.h b9
                       have b10':=fun (z:After wr) => wkeep z.h b10
                       clear a0 a1 a2 a3 a4 a5 a6 a7 a8 a9 a10 b0 b1 b2 b3 b4 b5 b6 b7 b8 b9 b10
                       go_upto_region 19 with (fail)
                       refine wp_region_after (by kernel_rfl) (by kernel_rfl) (Wider.refl wr) ?_
                       repeat (go_big_quiet_step (fail))
                       refine wpQuiet_nil ?_
                       rintro _ ⟨z,rfl⟩
                       have K2:=HK.out.quiet z.h
                       have ra:=hra z
                       have rr:=hrr z
                       have a0:=a0' z
                       have a1:=a1' z
                       have a2:=a2' z
                       have a3:=a3' z
                       have a4:=a4' z
                       have a5:=a5' z
                       have a6:=a6' z
                       have a7:=a7' z
                       have a8:=a8' z
                       have a9:=a9' z
                       have a10:=a10' z
                       have b0:=b0' z
                       have b1:=b1' z
                       have b2:=b2' z
                       have b3:=b3' z
                       have b4:=b4' z
                       have b5:=b5' z
                       have b6:=b6' z
                       have b7:=b7' z
                       have b8:=b8' z
                       have b9:=b9' z
                       have b10:=b10' z
                       obtain ⟨wz,hwz⟩ : ∃ W,z.w = W:=⟨_,rfl⟩
                       rw [hwz] at K2 ra rr a0 a1 a2 a3 a4 a5 a6 a7 a8 a9 a10 b0 b1 b2 b3 b4 b5 b6 b7 b8 b9 b10 ⊢
                       have zq:=fun (z:After wz) => ysame_c ⟨xtb,xkey,xoth,xln,xpr,xbk,xargs,xidle,xhard,xck,xtl⟩ ⟨xtb,xkey,xoth,xln,xpr,xbk,xargs,xidle,xhard,xck,xtl⟩ (cap:=cr) (cap2:=ca) z.w (rr.on z.h) (ra.on z.h) hnr4 (decide_eq_true rfl)
                       clear hra hrr hwz ra rr a0' a1' a2' a3' a4' a5' a6' a7' a8' a9' a10' b0' b1' b2' b3' b4' b5' b6' b7' b8' b9' b10'
                       have a0':=fun (z:After wz) => wkeep z.h a0
                       have a1':=fun (z:After wz) => wkeep z.h a1
                       have a2':=fun (z:After wz) => wkeep z.h a2
                       have a3':=fun (z:After wz) => wkeep z.h a3
                       have a4':=fun (z:After wz) => wkeep z.h a4
                       have a5':=fun (z:After wz) => wkeep z.h a5
                       have a6':=fun (z:After wz) => wkeep z.h a6
                       have a7':=fun (z:After wz) => wkeep z.h a7
                       have a8':=fun (z:After wz) => wkeep z.h a8
                       have a9':=fun (z:After wz) => wkeep z.h a9
                       have a10':=fun (z:After wz) => wkeep z.h a10
                       have b0':=fun (z:After wz) => wkeep z.h b0
                       have b1':=fun (z:After wz) => wkeep z.h b1
                       have b2':=fun (z:After wz) => wkeep z.h b2
                       have b3':=fun (z:After wz) => wkeep z.h b3
                       have b4':=fun (z:After wz) => wkeep z.h b4
                       have b5':=fun (z:After wz) => wkeep z.h b5
                       have b6':=fun (z:After wz) => wkeep z.h b6
                       have b7':=fun (z:After wz) => wkeep z.h b7
                       have b8':=fun (z:After wz) => wkeep z.h b8
                       have b9':=fun (z:After wz) => wkeep z.h b9
                       have b10':=fun (z:After wz) => wkeep z.h b10
                       have HK2:=Lib.hid K2
                       clear K2 a0 a1 a2 a3 a4 a5 a6 a7 a8 a9 a10 b0 b1 b2 b3 b4 b5 b6 b7 b8 b9 b10
                       go_upto_region 23 with (fail)
                       refine wp_region_after (by kernel_rfl) (by kernel_rfl) (Wider.refl wz) ?_
                       repeat (go_big_quiet_step (first | (go_at_call 25; with_reducible exact quiet_after (zq _))))
                       refine wpQuiet_nil ?_
                       rintro _ ⟨z2,rfl⟩
                       have K3:=HK2.out.quiet z2.h
                       clear zq a0' a1' a2' a3' a4' a5' a6' a7' a8' a9' a10' b0' b1' b2' b3' b4' b5' b6' b7' b8' b9' b10'
                       go_wp2
                       go_roundw
                       case rel => exact ⟨i,k + 1,j + 1,by omega,rfl,by go_num,by go_num,HN2,K3⟩
                       case measure => simp [intOf]; omega
                 · obtain rfl:j = m:=by omega
                   have j1:¬ (j:Int) < (j:Int):=by omega
                   obtain ⟨hE1,hG2,hE3,l1,l2,l3,hou,hru⟩:=HF.out
                   have h1:=HI.out
                   rw [List.take_of_length_le (by rw [HM.out]; exact Nat.le_refl _),hou,hru] at h1
                   obtain ⟨rfl,rfl⟩:=h1
                   obtain ⟨d2,is2,hd2,zd2⟩:=ydue_c K
                   have zd2:=zd2 wr (Wider.refl wr)
                   have hlast:=rest_due hd2
                   have zx2:=fun (W:World) (g:Wider wr W) => yexpire_c (K.quiet g) HN9.out now (n:=0) (by rw [rest_out]; rfl)
                   have G9:=Wider.refl wr
                   have HK9:=Lib.hid K
                   have v1:((ou:Int) == (ou:Int)) = true:=beq_self_eq_true _
                   have v2:((ru:Int) == (ru:Int)) = true:=beq_self_eq_true _
                   have hcl:clampT now = max 0 (min now 1099511627776):=rfl
                   have hmm:(if (if now < 0 then 0 else now) < 1099511627776 then (if now < 0 then 0 else now) else 1099511627776) = clampT now:=by rw [hcl]; split <;> split <;> omega
                   cases is2 with
                   | false =>
                     clear hd2 hlast K hE1 hG2 hE3 l1 l2 l3 hou hru hcl
                     go_wp2_with (first
                      | (go_at_call 15; ((with_reducible refine zd2.mono ?_); rintro e w24 ⟨rfl,g⟩; replace G9:=G9.trans g; clear zd2 g))
                      | (go_at_call 17; ((with_reducible refine (zx2 _ G9).mono ?_); rintro e w25 ⟨B4,c4,G4,rfl,_,K10⟩; clear zx2)))
                     go_ret
                     exact ⟨rfl,K10.wider⟩
                   | true =>
                     have hlt:clampT now < d2:=by
                      rcases hlast with h | h
                      · cases h
                      · exact h
                     clear hd2 hlast K hE1 hG2 hE3 l1 l2 l3 hou hru hcl
                     go_wp2_with (first
                      | (go_at_call 15; ((with_reducible refine zd2.mono ?_); rintro e w24 ⟨rfl,g⟩; replace G9:=G9.trans g; clear zd2 g))
                      | (go_at_call 17; ((with_reducible refine (zx2 _ G9).mono ?_); rintro e w25 ⟨B4,c4,G4,rfl,_,K10⟩; clear zx2)))
                     all_goals
                      go_ret
                      refine ⟨congrArg (fun q => Ending.returned (.bool q)) (decide_eq_true (by unfold clampT at hlt; omega)),K10.wider⟩
set_option maxRecDepth 100000 in
theorem tableTimes_lifted (os:Os) (started:os.Started) (H:Type) (enc:TypeId × Value → H) :
 ReturnsInHanded {} Tryz.checked os 4 .any (Rows.tableTimesSpec.pre6 enc Tryz.prog Tryz.f4 Rows.tableTimesRow.domain false) (Rows.tableTimesSpec.post enc Tryz.prog Tryz.f4 false true false false) := by
 refine returnsInHanded_of_change (C:=Tryz.checked) own started (by kernel_rfl) Tryz.func4
  (ChangeSpec.witness6 (enc:=enc) (C:=Tryz.checked) false ⟨#[],#[.agg #[.int .i64 0,.int .u8 0,.slice none 0 0,.int .i64 0,.int .i64 0],.slice none 0 0,.slice none 0 0,.int .i64 0],[]⟩ 8 (by kernel_rfl) (by kernel_rfl) (by kernel_rfl) (by kernel_rfl)) ?_
 intro W base args ds gs before hval0 hW hcnd _
 have hval:∀ (j:Nat) t v,Tryz.f4.params[j]? = some t → args[j]? = some v → Value.okWide Tryz.prog W .any base t v:=hval0
 have hW':=hW
 obtain ⟨p,q,hA0,hV,rfl,hfz,hnd⟩:=hW
 have hA:DataW.TrodAll enc Tryz.prog W 0 (fun _ => true) true Tryz.f4.params.toList args.toList ds p:=hA0
 rw [Tryz.params4] at hA hval
 obtain ⟨v0,vs0,d0,ds0,p0,q0,hargs,rfl,rfl,h0,r0⟩:=trodAll_cons hA
 obtain ⟨v1,vs1,d1,ds1,p1,q1,rfl,rfl,rfl,h1,r1⟩:=trodAll_cons r0
 obtain ⟨v2,vs2,d2,ds2,p2,q2,rfl,rfl,rfl,h2,r2⟩:=trodAll_cons r1
 obtain ⟨v3,vs3,d3,ds3,p3,q3,rfl,rfl,rfl,h3,r3⟩:=trodAll_cons r2
 obtain ⟨rfl,rfl,rfl⟩:=trodAll_nil r3
 obtain rfl:args = #[v0,v1,v2,v3]:=by cases args; simp_all
 obtain ⟨rfl,rfl⟩:=trodVars_none hV
 have h0k:=h0
 obtain ⟨t0,KA0,kn0,kc0,rfl,hk0,hkl0,hc0⟩:=open_tab2 (hval 0 36 v0 rfl rfl) h0
 have h1k:=h1
 obtain ⟨A1,len1,cap1,rfl⟩:=okWide_slice Tryz.underlying34 (hval 1 34 v1 rfl rfl)
 obtain ⟨fuel1,hf1⟩:=h1
 obtain ⟨zs1,hw1,hwl1⟩:=open_nums hf1
 have h2k:=h2
 obtain ⟨A2,len2,cap2,rfl⟩:=okWide_slice Tryz.underlying54 (hval 2 54 v2 rfl rfl)
 obtain ⟨fuel2,hf2⟩:=h2
 obtain ⟨l2,hl2,ha2,hm2,hz2⟩:=open_actsT hf2
 obtain ⟨n3,rfl,rfl,rfl,w3⟩:=open_int Tryz.underlying2 (hval 3 2 v3 rfl rfl) h3
 clear hA0 hval0
 simp only [List.append_nil] at hW'
 refine (tableTimes_walk W t0 KA0 kn0 kc0 hk0 hkl0 hc0 A1 len1 cap1 zs1 hw1 hwl1 A2 len2 cap2 l2 hl2 ha2 hm2 hz2 n3 (bounds_i64 w3).1 (bounds_i64 w3).2).mono fun e W' ⟨he,hg⟩ => ?_
 subst he
 have hlt:∀ x ∈ p0 ++ (p1 ++ (p2)),x.block < W.heap.size:=fun x hx => by simpa using hW'.lt x hx
 exact ⟨_,rfl,post_of_wider (pv:=[]) hW' (fun _ _ _ => (trodAll_cons_mk (shut_bool Tryz.underlying4 _) trodAll_mk0)) (fun sp hsp => (trodAll_cons_mk (WideElems.Trod_stays laid3 (by kernel_rfl) (of_decide_eq_true (by kernel_rfl)) h0k (fun x hx => wsame hg (hlt x (by simp [hx]))) (fun x hx => hsp x (by simp [hx]))) (trodAll_cons_mk (WideElems.Trod_stays laid3 (by kernel_rfl) (of_decide_eq_true (by kernel_rfl)) h1k (fun x hx => wsame hg (hlt x (by simp [hx]))) (fun x hx => hsp x (by simp [hx]))) (trodAll_cons_mk (WideElems.Trod_stays laid3 (by kernel_rfl) (of_decide_eq_true (by kernel_rfl)) h2k (fun x hx => wsame hg (hlt x (by simp [hx]))) (fun x hx => hsp x (by simp [hx]))) (trodAll_cons_mk (shut_int Tryz.underlying2 w3) trodAll_mk0))))) (fun _ _ => rfl) (by simp)
  hg (ok_one (by kernel_rfl) rfl (okWide_bool_mk Tryz.underlying4 _))⟩
theorem tableTimes_holds : Rows.TableTimesSaid :=
 OpenClaim.holds_of_wide 4 Tryz.f4 rfl rfl rfl rfl rfl rfl rfl ⟨rfl,rfl,rfl,rfl,rfl⟩ rfl rfl rfl rfl rfl (by kernel_rfl) Tryz.func4 (by kernel_rfl)
  (of_decide_eq_true (by kernel_rfl)) (by unfold Func.isWrapper; first | (rw [if_pos (by decide +kernel)]; kernel_rfl) | (rw [if_neg (by decide +kernel)]; exact ⟨rfl,rfl⟩))
  (fun os started H enc _ => tableTimes_lifted os started H enc)
#print axioms tableTimes_holds
end Go.Proofs.YtbnpelciceblfaaGreat
