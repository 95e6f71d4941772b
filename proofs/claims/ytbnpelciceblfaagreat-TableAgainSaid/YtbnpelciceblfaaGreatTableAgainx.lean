/- Put again, an entry has what it says now, stands behind all others, and its times begin anew; there are no two that are the same one: for all tables, widths, acts, numbers and readings, the statement's function returns true. -/
import Derived.Test.YtbnpelciceblfaaGreatS03
namespace Go.Proofs.YtbnpelciceblfaaGreat
set_option linter.unusedVariables false
open Go.ChangeShapes Go.WideShapes Go.ChangeAt Go.RowKit Go.Joins
set_option maxHeartbeats 64000000
set_option maxRecDepth 100000 in
theorem tableAgain_walk0 (w:World) (t:TabV) (KA:Option Addr) (kn kc:Nat) (hk:NumsAt w (.slice KA kn kc) t.keys) (hkl:t.keys.length ≤ maxLen) (hcap:-9223372036854775808 ≤ t.cap ∧ t.cap ≤ 9223372036854775807) (WA:Option Addr) (wn wc:Nat) (zs:List Int) (hw:NumsAt w (.slice WA wn wc) zs) (hwl:zs.length ≤ maxLen)
 (A:Option Addr) (n cap:Nat) (l:List ActT) (hl:l.length = n) (ha:ActsTAt w A l) (hn:l.length ≤ maxLen) (hz:∀ y ∈ l,y.Ok) (which block now:Int) (hwh:-9223372036854775808 ≤ which ∧ which ≤ 9223372036854775807) (hbl:-9223372036854775808 ≤ block ∧ block ≤ 9223372036854775807) (hn0:-9223372036854775808 ≤ now) (hn1:now ≤ 9223372036854775807) :
 Calls Tryz.prog 5 #[.agg (tabC t (.slice KA kn kc)),.slice WA wn wc,.slice A n cap,.int .i64 which,.int .i64 block,.int .i64 now] w fun e w' => e = .returned (.bool true) ∧ Wider w w':=by
 obtain ⟨_,_,_,eK,hkn,-⟩:=id hk
 cases eK
 obtain ⟨_,_,_,eW,hwn,-⟩:=id hw
 cases eW
 unfold maxLen at hn hkl hwl
 have H0:Own w w []:=Own.nil (Wider.refl w)
 have H1:=H0.blk (tabC t (.slice KA kn kc)) 36
 obtain ⟨id,kind,keys,cp,miss⟩:=t
 have hkn:keys.length = kn:=hkn
 have ok:∀ x ∈ l,x.x.key.size ≤ 9223372036854775807 ∧ x.x.oth.size ≤ 9223372036854775807 ∧ x.x.args.length ≤ 9223372036854775807:=fun x hx => by
  have h:=(hz x hx).x; have h1:=h.key; have h2:=h.oth; have h3:=h.args; unfold maxLen at h1 h2 h3; omega
 obtain ⟨b,hb⟩ : ∃ b,decide (6000 ≤ bulkT l) = b:=⟨_,rfl⟩
 have zl:=fun (W:World) (g:Wider w W) => ylong_c A n cap l W (ha.on g) hl (by omega) ok hb
 have c2:=blk_cell H1.head 2 (v:=.slice KA kn kc) rfl
 have G:=(Wider.refl w).alloc (.cells #[.int .i64 id,.int .u8 kind,.slice KA kn kc,.int .i64 cp,.int .i64 miss] 36)
 show Calls Tryz.prog 5 #[.agg #[.int .i64 id,.int .u8 kind,.slice KA kn kc,.int .i64 cp,.int .i64 miss],.slice WA wn wc,.slice A n cap,.int .i64 which,.int .i64 block,.int .i64 now] w _
 cases b with
 | true =>
   clear hk hkl hw hwl hl ha hn hz hkn hwn H0 H1 ok hb hcap hn0 hn1 hwh hbl
   go_enter Tryz.func5,Tryz.ntmps5
   go_wp2_with (first
    | (go_at_call 23; ((with_reducible refine (zl _ G).mono ?_); rintro e w1 ⟨rfl,g⟩; replace G:=G.trans g; replace c2:=wkeep g c2; clear zl g))
    | (go_at_call 7; ((with_reducible refine (yawake_c _).mono ?_); rintro e w2 ⟨rfl,g⟩; replace G:=G.trans g; clear g)))
   go_ret
   exact ⟨rfl,G⟩
 | false =>
   by_cases b1:100 < kn
   · have i1:(100:Int) < (kn:Int):=by omega
     clear hk hkl hw hwl hl ha hn hz hkn hwn H0 H1 ok hb hcap hn0 hn1 hwh hbl b1
     go_enter Tryz.func5,Tryz.ntmps5
     go_wp2_with (first
      | (go_at_call 23; ((with_reducible refine (zl _ G).mono ?_); rintro e w1 ⟨rfl,g⟩; replace G:=G.trans g; replace c2:=wkeep g c2; clear zl g))
      | (go_at_call 7; ((with_reducible refine (yawake_c _).mono ?_); rintro e w2 ⟨rfl,g⟩; replace G:=G.trans g; clear g)))
     go_ret
     exact ⟨rfl,G⟩
   · have i1:¬ (100:Int) < (kn:Int):=by omega
     by_cases b2:100 < wn
     · have i2:(100:Int) < (wn:Int):=by omega
       clear hk hkl hw hwl hl ha hn hz hkn hwn H0 H1 ok hb hcap hn0 hn1 hwh hbl b1 b2
       go_enter Tryz.func5,Tryz.ntmps5
       go_wp2_with (first
        | (go_at_call 23; ((with_reducible refine (zl _ G).mono ?_); rintro e w1 ⟨rfl,g⟩; replace G:=G.trans g; replace c2:=wkeep g c2; clear zl g))
        | (go_at_call 7; ((with_reducible refine (yawake_c _).mono ?_); rintro e w2 ⟨rfl,g⟩; replace G:=G.trans g; clear g)))
       go_ret
       exact ⟨rfl,G⟩
     · have i2:¬ (100:Int) < (wn:Int):=by omega
       have hn9:n < 90000:=by have:=bulkT_length l; have:=of_decide_eq_false hb; omega
       have zm:=fun {R:List Thing} (W:World) (h:Own w W R) => ymade_c (c:=cap) h (t:=⟨id,kind,keys,cp,miss⟩) hk hw (by show keys.length < 1000; omega) (by omega) ha hl hn9 hz
       clear hkl hwl hl ha hn hz ok hb b1 b2 hk hw c2
       obtain ⟨Bt,hBt⟩ : ∃ B,w.heap.size = B:=⟨_,rfl⟩
       have H2:=H1
       rw [hBt] at H2
       have c0:=blk_cell H1.head 0 (v:=.int .i64 id) rfl
       have c1:=blk_cell H1.head 1 (v:=.int .u8 kind) rfl
       have c2:=blk_cell H1.head 2 (v:=.slice KA kn kc) rfl
       have c3:=blk_cell H1.head 3 (v:=.int .i64 cp) rfl
       have c4:=blk_cell H1.head 4 (v:=.int .i64 miss) rfl
       have HNW:=Lib.hid (And.intro hn0 hn1)
       have HWH:=Lib.hid (And.intro hwh hbl)
       clear hkn hwn H0 hcap H1 hn0 hn1 hwh hbl
       go_enter Tryz.func5,Tryz.ntmps5
       go_upto_region 1 with (fail)
       try rw [hBt]
       rw [hBt] at c0 c1 c2 c3 c4
       generalize hW0:(w.alloc (.cells #[.int .i64 id,.int .u8 kind,.slice KA kn kc,.int .i64 cp,.int .i64 miss] 36)) = W0 at *
       clear hW0 hBt
       go_upto_region 4 with (first
        | (go_at_call 23; ((with_reducible refine (zl _ G).mono ?_); rintro e w1 ⟨rfl,g⟩; replace G:=G.trans g; replace H2:=H2.quiet g; replace c0:=wkeep g c0; replace c1:=wkeep g c1; replace c2:=wkeep g c2; replace c3:=wkeep g c3; replace c4:=wkeep g c4; clear zl g))
        | (go_at_call 7; ((with_reducible refine (yawake_c _).mono ?_); rintro e w2 ⟨rfl,g⟩; replace G:=G.trans g; replace H2:=H2.quiet g; replace c0:=wkeep g c0; replace c1:=wkeep g c1; replace c2:=wkeep g c2; replace c3:=wkeep g c3; replace c4:=wkeep g c4; clear g))
        | (go_at_call 24; ((with_reducible refine (zm _ H2).mono ?_); rintro e w3 ⟨p,rfl,hD⟩; clear zm c0 c1 c2 c3 c4)))
       have HH2:=Lib.hid H2.wider
       clear H2
       rcases hD with ⟨rfl,g⟩ | ⟨S,s,rfl,hcs,hsn,K0⟩
       · go_wp2
         go_ret
         exact ⟨rfl,HH2.out.trans g⟩
       · have K:=K0.less (M:=[_]) (R:=[])
         have HN9:=Lib.hid (show s.n < 99980 by omega)
         clear hsn
         have gd:=K.good
         obtain ⟨m,hm⟩ : ∃ m,s.L.length = m:=⟨_,rfl⟩
         have HM:=Lib.hid hm
         have HGD:=Lib.hid gd
         have za:=fun (W:World) (k:StoreIs w W [] S s) => yents_c k HM.out
         clear hcs K0 gd hm
         go_upto_region 7 with (first
          | (go_at_call 18; ((with_reducible refine (za _ K).mono ?_); rintro e w4 ⟨B1,c1,E1,rfl,hE1,KA⟩; clear K za)))
         have l1:E1.length = m:=by rw [← HM.out,← List.length_map (f:=fun h:HeldM => h.x),← hE1,List.length_map]
         have HE:=Lib.hid hE1
         have HEL:=Lib.hid l1
         have m256:m ≤ 256:=by have:=HGD.out.l.len; have:=HGD.out.c2; have:=HM.out; omega
         clear hE1 l1
         go_wp2
         go_loopw [15] (fun a wr => ∃ j:Nat,j ≤ m ∧ a = .int .i64 (j:Int) ∧ StoreIs w wr (entsT (.slice B1 m c1) m E1 ++ []) S s) (fun a _ => m - (intOf a).toNat)
         case atStart => exact ⟨0,Nat.zero_le _,rfl,KA⟩
         case round =>
          clear KA
          obtain ⟨j,hj,rfl,K⟩:=hrel
          have j0:(0:Int) ≤ (j:Int):=by omega
          by_cases dj:j < m
          · focus
             have j1:(j:Int) < (m:Int):=by omega
             obtain ⟨⟨y,yp,yf⟩,hy⟩ : ∃ h,s.L[j]? = some h:=⟨s.L[j]'(by rw [HM.out]; exact dj),List.getElem?_eq_getElem _⟩
             have HY:=Lib.hid hy
             have HK:=Lib.hid K
             clear hy K
             go_wp2
             go_loopw [16] (fun a wr => ∃ k:Nat,k ≤ j ∧ a = .int .i64 (k:Int) ∧ StoreIs w wr (entsT (.slice B1 m c1) m E1 ++ []) S s) (fun a _ => j - (intOf a).toNat)
             case atStart => exact ⟨0,Nat.zero_le _,rfl,HK.out⟩
             case round =>
              clear HK
              obtain ⟨k,hk,rfl,K⟩:=hrel
              have k0:(0:Int) ≤ (k:Int):=by omega
              by_cases dk:k < j
              · have k1:(k:Int) < (j:Int):=by omega
                have k2:(k:Int) < (m:Int):=by omega
                obtain ⟨⟨x,xp,xf⟩,hx⟩ : ∃ h,s.L[k]? = some h:=⟨s.L[k]'(by rw [HM.out]; omega),List.getElem?_eq_getElem _⟩
                have no:¬ OneE y x:=fun o => by
                 obtain ⟨p1,p2⟩:=List.getElem?_eq_some_iff.1 hx
                 obtain ⟨q1,q2⟩:=List.getElem?_eq_some_iff.1 HY.out
                 have q:=List.pairwise_iff_getElem.1 HGD.out.l.nd k j p1 q1 dk
                 rw [p2,q2] at q
                 exact q o.symm
                obtain ⟨Bk,eB,ka⟩:=ents_at K.rest (fun t ht => List.mem_append_left _ ht) HEL.out j y (by rw [HE.out,List.getElem?_map,HY.out]; rfl)
                obtain ⟨Bl,eC,kb⟩:=ents_at K.rest (fun t ht => List.mem_append_left _ ht) HEL.out k x (by rw [HE.out,List.getElem?_map,hx]; rfl)
                subst eB
                obtain rfl:Bk = Bl:=by cases eC; rfl
                obtain ⟨Aa,na,ca,hna,ra,a0,a1,a2,a3,a4,a5,a6,a7,a8,a9,a10⟩:=ka.cells
                obtain ⟨Ab,nb,cb,hnb,rb,b0,b1,b2,b3,b4,b5,b6,b7,b8,b9,b10⟩:=kb.cells
                obtain ⟨sm1,sm2⟩:=HGD.out.small _ (List.mem_of_getElem? HY.out)
                have zo:=fun (z:After wr) => zone_c y x Aa na ca Ab nb cb (decide_eq_false no) z.w
                have HYY:=Lib.hid HY.out
                clear HY
                obtain ⟨ytb,ykey,yoth,yln,ypr,ybk,yargs,yidle,yhard,yck,ytl⟩:=y
                obtain ⟨xtb,xkey,xoth,xln,xpr,xbk,xargs,xidle,xhard,xck,xtl⟩:=x
                have a0':=fun (z:After wr) => wkeep z.h a0
                have a1':=fun (z:After wr) => wkeep z.h a1
                have a2':=fun (z:After wr) => wkeep z.h a2
                have a3':=fun (z:After wr) => wkeep z.h a3
                have a4':=fun (z:After wr) => wkeep z.h a4
                have a5':=fun (z:After wr) => wkeep z.h a5
                have a6':=fun (z:After wr) => wkeep z.h a6
                have a7':=fun (z:After wr) => wkeep z.h a7
                have a8':=fun (z:After wr) => wkeep z.h a8
                have a9':=fun (z:After wr) => wkeep z.h a9
                have a10':=fun (z:After wr) => wkeep z.h a10
                have b0':=fun (z:After wr) => wkeep z.h b0
                have b1':=fun (z:After wr) => wkeep z.h b1
                have b2':=fun (z:After wr) => wkeep z.h b2
                have b3':=fun (z:After wr) => wkeep z.h b3
                have b4':=fun (z:After wr) => wkeep z.h b4
                have b5':=fun (z:After wr) => wkeep z.h b5
                have b6':=fun (z:After wr) => wkeep z.h b6
                have b7':=fun (z:After wr) => wkeep z.h b7
                have b8':=fun (z:After wr) => wkeep z.h b8
                have b9':=fun (z:After wr) => wkeep z.h b9
                have b10':=fun (z:After wr) => wkeep z.h b10
                have HK:=Lib.hid K
                clear K no hx eC ka kb hna hnb ra rb sm1 sm2 a0 a1 a2 a3 a4 a5 a6 a7 a8 a9 a10 b0 b1 b2 b3 b4 b5 b6 b7 b8 b9 b10
                go_upto_region 13 with (fail)
                refine wp_region_after (by kernel_rfl) (by kernel_rfl) (Wider.refl wr) ?_
                repeat (go_big_quiet_step (first | (go_at_call 26; with_reducible exact quiet_after (zo _))))
                refine wpQuiet_nil ?_
                rintro _ ⟨z,rfl⟩
                have K2:=HK.out.quiet z.h
                clear zo a0' a1' a2' a3' a4' a5' a6' a7' a8' a9' a10' b0' b1' b2' b3' b4' b5' b6' b7' b8' b9' b10'
                go_wp2
                go_roundw
                case rel => exact ⟨k + 1,by omega,by go_num,K2⟩
                case measure => simp [intOf]; omega
              · obtain rfl:j = k:=by omega
                have k1:¬ (j:Int) < (j:Int):=by omega
                go_wp2
                go_roundw
                case rel => exact ⟨j + 1,by omega,by go_num,K⟩
                case measure => simp [intOf]; omega
          · obtain rfl:m = j:=by omega
            have j1:¬ (m:Int) < (m:Int):=by omega
            by_cases z:m = 0
            · have z1:((m:Int) == 0) = true:=by rw [beq_iff_eq]; omega
              have z2:(m:Int) = 0:=by omega
              go_wp2
              go_ret
              exact ⟨rfl,K.wider⟩
            focus
             have z1:((m:Int) == 0) = false:=by rw [beq_eq_false_iff_ne]; omega
             have z2:¬ (m:Int) = 0:=by omega
             have hwh:=HWH.out.1
             have hbl:=HWH.out.2
             obtain ⟨zu,hzu⟩ : ∃ zu:Nat,IntKind.u64.wrap which = (zu:Int):=⟨(IntKind.u64.wrap which).toNat,by rw [Int.toNat_of_nonneg]; simp [IntKind.wrap,IntKind.bits,IntKind.signed]; omega⟩
             obtain ⟨k,hk⟩ : ∃ k,zu % m = k:=⟨_,rfl⟩
             have hkm:k < m:=by rw [← hk]; exact Nat.mod_lt _ (by omega)
             have t1:(zu:Int).tmod (m:Int) = (k:Int):=by rw [Int.tmod_eq_emod_of_nonneg (by omega),← hk]; omega
             have t2:IntKind.u64.wrap (m:Int) = (m:Int):=by simp [IntKind.wrap,IntKind.bits,IntKind.signed]; omega
             have t3:IntKind.u64.wrap (k:Int) = (k:Int):=by simp [IntKind.wrap,IntKind.bits,IntKind.signed]; omega
             have t4:IntKind.i64.wrap (k:Int) = (k:Int):=by simp [IntKind.wrap,IntKind.bits,IntKind.signed]; omega
             have t5:IntKind.i64.wrap ((k:Int) + 1) = (k:Int) + 1:=by simp [IntKind.wrap,IntKind.bits,IntKind.signed]; omega
             obtain ⟨bu,hbu⟩ : ∃ bu:Nat,IntKind.u64.wrap block = (bu:Int):=⟨(IntKind.u64.wrap block).toNat,by rw [Int.toNat_of_nonneg]; simp [IntKind.wrap,IntKind.bits,IntKind.signed]; omega⟩
             obtain ⟨bv,hbv⟩ : ∃ k,bu % 65534 = k:=⟨_,rfl⟩
             have bvl:bv < 65534:=by rw [← hbv]; exact Nat.mod_lt _ (by omega)
             have s1:(bu:Int).tmod 65534 = (bv:Int):=by rw [Int.tmod_eq_emod_of_nonneg (by omega),← hbv]; omega
             have s3:IntKind.u64.wrap (bv:Int) = (bv:Int):=by simp [IntKind.wrap,IntKind.bits,IntKind.signed]; omega
             have s4:IntKind.i64.wrap (bv:Int) = (bv:Int):=by simp [IntKind.wrap,IntKind.bits,IntKind.signed]; omega
             have s5:IntKind.i64.wrap (1 + (bv:Int)) = 1 + (bv:Int):=by simp [IntKind.wrap,IntKind.bits,IntKind.signed]; omega
             have q0:(0:Int) ≤ (k:Int):=by omega
             have q1:(k:Int) < (m:Int):=by omega
             obtain ⟨⟨x,av⟩,hE⟩ : ∃ e,E1[k]? = some e:=⟨E1[k]'(by rw [HEL.out]; exact hkm),List.getElem?_eq_getElem _⟩
             obtain ⟨⟨x',xp,xf⟩,hx⟩ : ∃ h,s.L[k]? = some h:=⟨s.L[k]'(by rw [HM.out]; exact hkm),List.getElem?_eq_getElem _⟩
             obtain rfl:x = x':=by
              have a:(E1.map (·.x))[k]? = some x:=by rw [List.getElem?_map,hE]; rfl
              rw [HE.out,List.getElem?_map,hx] at a
              exact (Option.some.inj a).symm
             obtain ⟨Bk,Aa,na,ca,eB,eA,hna,hc,a0,a1,a2,a3,a4,a5,a6,a7,a8,a9,a10⟩:=ents_get K.rest (fun t ht => List.mem_append_left _ ht) HEL.out hE
             subst eB
             have eA:av = .slice Aa na ca:=eA
             subst eA
             have HMEM:Hid (argT ⟨x,.slice Aa na ca⟩ ∈ entsT (.slice (some ⟨Bk,0,none⟩) m c1) m E1 ++ []):=Lib.hid (List.mem_append_left _ (.tail _ (List.mem_map.2 ⟨_,List.mem_of_getElem? hE,rfl⟩)))
             have hmay:=HGD.out.may _ (List.mem_of_getElem? hx)
             obtain ⟨sm1,sm2⟩:=HGD.out.small _ (List.mem_of_getElem? hx)
             have HX:=Lib.hid hx
             have HEE:=Lib.hid hE
             have HC:=Lib.hid hc
             have hcap:=rowY_cap (K.rest.holds (rowE (.slice (some ⟨Bk,0,none⟩) m c1) m E1) (.head _)) (by omega)
             obtain ⟨xtb,xkey,xoth,xln,xpr,xbk,xargs,xidle,xhard,xck,xtl⟩:=x
             have HMAY:Hid (mayT s ⟨xtb,xkey,xoth,xln,xpr,1 + (bv:Int),xargs,0,5,xck,xtl⟩ = true):=Lib.hid (by
              unfold mayT at hmay ⊢
              obtain ⟨p,q⟩:=Bool.and_eq_true_iff.1 hmay
              have p:=of_decide_eq_true p
              rw [Bool.and_eq_true_iff]
              exact ⟨decide_eq_true ⟨p.1,by show (1:Int) ≤ 1 + (bv:Int); omega,by show 1 + (bv:Int) ≤ 65534; omega,p.2.2.2.1,by show (0:Int) ≤ 0; omega,by show (0:Int) ≤ 1099511627776; omega,by show (0:Int) ≤ 5; omega,by show (5:Int) ≤ 1099511627776; omega⟩,q⟩)
             have hna4:na ≤ 4:=by
              unfold mayT at hmay
              have:=(of_decide_eq_true (Bool.and_eq_true_iff.1 hmay).1).2.2.2.1
              exact hna ▸ this
             have HOK:Hid (xln = xln):=Lib.hid rfl
             clear hc hx hE hmay hk hbv hwh hbl
             go_upto_region 22 with (fail)
             have HMEM2:=HMEM
             have K5:=K.blk #[.int .i64 xtb,.string xkey,.string xoth,.int .i64 xln,.int .i64 xpr,.int .i64 (1 + (bv:Int)),.slice Aa na ca,.int .i64 0,.int .i64 5,.int .u64 xck,.bool xtl] 26
             have g5:Wider wr (wr.alloc (.cells #[.int .i64 xtb,.string xkey,.string xoth,.int .i64 xln,.int .i64 xpr,.int .i64 (1 + (bv:Int)),.slice Aa na ca,.int .i64 0,.int .i64 5,.int .u64 xck,.bool xtl] 26)):=(Wider.refl wr).alloc _
             obtain ⟨B5,hB5⟩ : ∃ B,wr.heap.size = B:=⟨_,rfl⟩
             rw [hB5] at K5
             try rw [hB5]
             obtain ⟨W5,hW5⟩ : ∃ W,wr.alloc (.cells #[.int .i64 xtb,.string xkey,.string xoth,.int .i64 xln,.int .i64 xpr,.int .i64 (1 + (bv:Int)),.slice Aa na ca,.int .i64 0,.int .i64 5,.int .u64 xck,.bool xtl] 26) = W:=⟨_,rfl⟩
             rw [hW5] at K5 g5 ⊢
             obtain ⟨hhas,hbut⟩:=but_again (y:=⟨xtb,xkey,xoth,xln,xpr,1 + (bv:Int),xargs,0,5,xck,xtl⟩) HGD.out.l HX.out ⟨rfl,rfl,rfl,rfl,rfl⟩
             have oo:=HGD.out.ok _ (List.mem_of_getElem? HX.out)
             have ho:EntV.Ok ⟨xtb,xkey,xoth,xln,xpr,1 + (bv:Int),xargs,0,5,xck,xtl⟩:=⟨oo.key,oo.oth,oo.args,oo.ln0,oo.ln1,oo.pr0,oo.pr1,by show -9223372036854775808 ≤ 1 + (bv:Int); omega,by show 1 + (bv:Int) ≤ 9223372036854775807; omega⟩
             have hA5:=fun (W:World) (hW:Own w W (blkT B5 (#[.int .i64 xtb,.string xkey,.string xoth,.int .i64 xln,.int .i64 xpr,.int .i64 (1 + (bv:Int)),.slice Aa na ca,.int .i64 0,.int .i64 5,.int .u64 xck,.bool xtl]) 26 :: (entsT (.slice (some ⟨Bk,0,none⟩) m c1) m E1 ++ []))) => args_held (e:=⟨⟨xtb,xkey,xoth,xln,xpr,xbk,xargs,xidle,xhard,xck,xtl⟩,.slice Aa na ca⟩) hW (.tail _ HMEM.out)
             have zp:=yput_c K5 (by have:=HN9.out; omega) (x:=⟨xtb,xkey,xoth,xln,xpr,1 + (bv:Int),xargs,0,5,xck,xtl⟩) (av:=.slice Aa na ca) hA5 ho now
             have ec:codeP s ⟨xtb,xkey,xoth,xln,xpr,1 + (bv:Int),xargs,0,5,xck,xtl⟩ = 0:=by unfold codeP; rw [if_pos HMAY.out,if_pos (.inl hhas)]
             have es:putS s ⟨xtb,xkey,xoth,xln,xpr,1 + (bv:Int),xargs,0,5,xck,xtl⟩ now = { s with L:=putE s.L ⟨xtb,xkey,xoth,xln,xpr,1 + (bv:Int),xargs,0,5,xck,xtl⟩ now,n:=s.n + 1 } :=by unfold putS; rw [if_pos ⟨HMAY.out,.inl hhas⟩]
             rw [ec,es] at zp
             obtain ⟨s2,hs2⟩ : ∃ s2:StM,{ s with L:=putE s.L ⟨xtb,xkey,xoth,xln,xpr,1 + (bv:Int),xargs,0,5,xck,xtl⟩ now,n:=s.n + 1 } = s2:=⟨_,rfl⟩
             rw [hs2] at zp
             have HL2:Hid (s2.L = (s.L.take k ++ s.L.drop (k + 1)) ++ [⟨⟨xtb,xkey,xoth,xln,xpr,1 + (bv:Int),xargs,0,5,xck,xtl⟩,clampT now,clampT now⟩]):=Lib.hid (by rw [← hs2,← hbut]; rfl)
             have hn2:s2.L.length = m:=by
              have:=HM.out
              rw [HL2.out,List.length_append,List.length_append,List.length_take,List.length_drop,List.length_singleton]; omega
             have HN2:=Lib.hid hn2
             have HN8:Hid (s2.n < 99990):=Lib.hid (by have:=HN9.out; rw [← hs2]; show s.n + 1 < 99990; omega)
             have bx:W5.heap[B5]? = some (.cells #[.int .i64 xtb,.string xkey,.string xoth,.int .i64 xln,.int .i64 xpr,.int .i64 (1 + (bv:Int)),.slice Aa na ca,.int .i64 0,.int .i64 5,.int .u64 xck,.bool xtl] 26 (0,0)):=K5.rest.holds (blkT B5 (#[.int .i64 xtb,.string xkey,.string xoth,.int .i64 xln,.int .i64 xpr,.int .i64 (1 + (bv:Int)),.slice Aa na ca,.int .i64 0,.int .i64 5,.int .u64 xck,.bool xtl]) 26) (.head _)
             have d0:=blk_cell bx 0 (v:=.int .i64 xtb) rfl
             have d1:=blk_cell bx 1 (v:=.string xkey) rfl
             have d2:=blk_cell bx 2 (v:=.string xoth) rfl
             have d3:=blk_cell bx 3 (v:=.int .i64 xln) rfl
             have d4:=blk_cell bx 4 (v:=.int .i64 xpr) rfl
             have d5:=blk_cell bx 5 (v:=.int .i64 (1 + (bv:Int))) rfl
             have d6:=blk_cell bx 6 (v:=.slice Aa na ca) rfl
             have d7:=blk_cell bx 7 (v:=.int .i64 0) rfl
             have d8:=blk_cell bx 8 (v:=.int .i64 5) rfl
             have d9:=blk_cell bx 9 (v:=.int .u64 xck) rfl
             have d10:=blk_cell bx 10 (v:=.bool xtl) rfl
             clear K hB5 hW5 a0 a1 a2 a3 a4 a5 a6 a7 a8 a9 a10 eA hhas hbut oo ho hA5 ec es hs2 bx K5 g5 HC
             go_upto_region 25 with (first
              | (go_at_call 10; ((with_reducible refine zp.mono ?_); rintro e w6 ⟨rfl,K6⟩; clear zp d0 d1 d2 d3 d4 d5 d6 d7 d8 d9 d10; have HG2:=Lib.hid K6.good; have ze:=yents_c K6 hn2))
              | (go_at_call 18; ((with_reducible refine ze.mono ?_); rintro e w7 ⟨B2,c2,E2,rfl,hE2,K7⟩; clear ze hn2 K6)))
             have HE2:=Lib.hid hE2
             obtain ⟨R5,hR5⟩ : ∃ R:List Thing,blkT B5 (#[.int .i64 xtb,.string xkey,.string xoth,.int .i64 xln,.int .i64 xpr,.int .i64 (1 + (bv:Int)),.slice Aa na ca,.int .i64 0,.int .i64 5,.int .u64 xck,.bool xtl]) 26 :: (entsT (.slice (some ⟨Bk,0,none⟩) m c1) m E1 ++ []) = R:=⟨_,rfl⟩
             have HR5:Hid (blkT B5 (#[.int .i64 xtb,.string xkey,.string xoth,.int .i64 xln,.int .i64 xpr,.int .i64 (1 + (bv:Int)),.slice Aa na ca,.int .i64 0,.int .i64 5,.int .u64 xck,.bool xtl]) 26 ∈ R5):=Lib.hid (by rw [← hR5]; exact .head _)
             obtain ⟨Xs0,Ts0,H,kst⟩:=K7
             have HST:=Lib.hid kst
             rw [← List.append_assoc] at H
             obtain ⟨Ts,hTs⟩ : ∃ Ts:List Thing,Ts0 ++ Xs0 = Ts:=⟨_,rfl⟩
             rw [hTs] at H
             have HTS:=Lib.hid hTs
             clear hTs
             obtain ⟨X,hX⟩ : ∃ X:List Thing,Ts ++ R5 = X:=⟨_,rfl⟩
             have HXX:=Lib.hid hX
             have HBX:Hid (blkT B5 (#[.int .i64 xtb,.string xkey,.string xoth,.int .i64 xln,.int .i64 xpr,.int .i64 (1 + (bv:Int)),.slice Aa na ca,.int .i64 0,.int .i64 5,.int .u64 xck,.bool xtl]) 26 ∈ X):=Lib.hid (by rw [← hX]; exact List.mem_append_right _ HR5.out)
             have HXA:Hid (∀ e ∈ E1,argT e ∈ X):=Lib.hid fun e he => by rw [← hX,← hR5]; exact List.mem_append_right _ (.tail _ (List.mem_append_left _ (.tail _ (List.mem_map.2 ⟨e,he,rfl⟩))))
             have HB:Hid (Own w w7 (entsT (.slice B2 m c2) m E2 ++ X)):=Lib.hid (by rw [← hX,← hR5]; exact H.perm (List.perm_append_comm_assoc _ _ _))
             have HC:Hid (∀ W,Wider w7 W → ∀ i v,(cellsE E1)[i]? = some v → W.cell? ⟨Bk,i,none⟩ = some v):=Lib.hid fun W g i v hv => by
              obtain ⟨B',c',e,hc⟩:=rowY_slice (H.holds (rowE (.slice (some ⟨Bk,0,none⟩) m c1) m E1) (List.mem_append_right _ (List.mem_append_right _ (.tail _ (.head _))))) (by omega)
              cases e
              exact wkeep g (hc i v hv)
             have HAV:Hid (∀ e ∈ E1,e.av.oneCell' = true):=Lib.hid fun e he => by
              obtain ⟨A',n',c',ea,_⟩:=args_held (e:=e) H (List.mem_append_right _ (List.mem_append_right _ (.tail _ (.tail _ (List.mem_append_left _ (List.mem_map.2 ⟨e,he,rfl⟩))))))
              rw [ea]; rfl
             have H6:Own w7 (w7.alloc (.cells #[] 26)).drew [rowT 26 11 (.slice (some ⟨w7.heap.size,0,none⟩) 0 0) 0 []] :=
              (((Own.nil (Wider.refl w7)).blk #[] 26).rowShut (n:=0) (c:=0) (cur:=[]) (xs:=[]) (Nat.le_refl _) (Nat.zero_le _) rfl rfl).quiet (Wider.refl _).drew
             have HC6:Hid (∀ a,some (⟨Bk,0,none⟩ : Addr) = some a → ∀ j u,(cellsE (E1.take k))[j]? = some u → ((w7.alloc (.cells #[] 26)).drew).cell? (a.add j) = some u):=Lib.hid fun a e j u hu => by
              injection e with e
              subst e
              rw [Addr.add_lit,Nat.zero_add]
              exact HC.out _ ((Wider.refl w7).alloc _).drew _ _ (cellsE_head hu)
             have HLT:Hid ((cellsE (E1.take k)).length = k * 11):=Lib.hid (by rw [cellsE_length,List.length_take,HEL.out,Nat.min_eq_left (Nat.le_of_lt hkm)])
             have HLD:Hid ((cellsE (E1.drop (k + 1))).length = (m - (k + 1)) * 11):=Lib.hid (by rw [cellsE_length,List.length_drop,HEL.out])
             obtain ⟨D,hD⟩ : ∃ D:Option Addr,(if c1 = k + 1 then some (⟨Bk,0,none⟩ : Addr) else some ⟨Bk,(k + 1) * 11,none⟩) = D:=⟨_,rfl⟩
             have hk0:(0:Int) ≤ (k:Int) + 1:=by omega
             have hkc:k ≤ c1:=by omega
             have hkc2:(k:Int) ≤ (c1:Int):=by omega
             have hkc3:k + 1 ≤ m:=by omega
             have hkc4:(k:Int) + 1 ≤ (m:Int):=by omega
             have hkc5:m ≤ c1:=hcap.1
             have hkc6:(m:Int) ≤ (c1:Int):=by omega
             have HCD:Hid (∀ W,Wider w7 W → ∀ a,D = some a → ∀ j u,(cellsE (E1.drop (k + 1)))[j]? = some u → W.cell? (a.add j) = some u):=Lib.hid fun W gW a e j u hu => by
              have hlen:=(List.getElem?_eq_some_iff.1 hu).1
              rw [HLD.out] at hlen
              rw [← hD,if_neg (by omega)] at e
              injection e with e
              subst e
              rw [Addr.add_lit]
              exact HC.out _ gW _ _ (cellsE_tail (by rw [HEL.out]; omega) hu)
             have O1:Hid (∀ u ∈ cellsE (E1.take k),u.oneCell' = true):=Lib.hid (cellsE_one _ fun e he => HAV.out e (List.mem_of_mem_take he))
             have O2:Hid (∀ u ∈ cellsE (E1.drop (k + 1)),u.oneCell' = true):=Lib.hid (cellsE_one _ fun e he => HAV.out e (List.mem_of_mem_drop he))
             have S1:Hid (0 + k ≤ maxLen):=Lib.hid (by unfold maxLen; omega)
             have S2:Hid ((0 + k) * 120 ≤ 140737488355328):=Lib.hid (by omega)
             obtain ⟨i0,hi,hz0,hz1,hz2⟩:=info_parts infoEnt
             have H6:=Lib.hid H6
             have S3:Hid (k + (m - (k + 1)) ≤ maxLen):=Lib.hid (by unfold maxLen; omega)
             have S4:Hid ((k + (m - (k + 1))) * 120 ≤ 140737488355328):=Lib.hid (by omega)
             have S5:Hid (k + (m - (k + 1)) = m - 1):=Lib.hid (by omega)
             have HDN:Hid (¬ D = none):=Lib.hid fun e => by
              rw [← hD] at e
              split at e <;> cases e
             have HW7:=Lib.hid (Wider.refl w7)
             clear hE2 H kst hX hR5
             go_cut [20] (fun v wc => ∃ (B7:Option Addr) (c7:Nat),v = .slice B7 (m - 1) c7 ∧ Own w7 wc [rowT 26 11 (.slice B7 (m - 1) c7) (m - 1) (cellsE (E1.take k ++ E1.drop (k + 1)))])
             case first =>
              focus
               go_region_law (first
                | (refine step_append_thing rfl (.tmp 102) (.tmp 105) 48 rfl 26 i0 _ 11 120 Tryz.underlying48 hi hz0 hz1 hz2 rfl (by decide) (.slice (some ⟨w7.heap.size,0,none⟩) 0 0) 0 [] (by simp [Act.eval]) H6.out (some ⟨Bk,0,none⟩) k c1 (cellsE (E1.take k)) (by simp [Act.eval]) HLT.out (fun e => by cases e) HC6.out O1.out S1.out S2.out (Nat.zero_add k) (List.nil_append _) ?_; intro B6 c6 w8 H7)
                | (refine step_append_thing rfl (.tmp 106) (.tmp 110) 48 rfl 26 i0 _ 11 120 Tryz.underlying48 hi hz0 hz1 hz2 rfl (by decide) (.slice B6 k c6) k (cellsE (E1.take k)) (by simp [Act.eval]) H7 D (m - (k + 1)) (c1 - (k + 1)) (cellsE (E1.drop (k + 1))) (by simp [Act.eval]) HLD.out (fun e => absurd e HDN.out) (HCD.out _ H7.wider) O2.out S3.out S4.out S5.out (cellsE_append _ _).symm ?_; intro B7 c7 w9 H8))
               all_goals
                go_wp2
                go_meet
                exact ⟨B7,c7,rfl,H8⟩
             case rest =>
              obtain ⟨B7,c7,rfl,H8⟩:=hcut
              obtain ⟨w9,hw9⟩ : ∃ w9,w9 = wc:=⟨_,rfl⟩
              subst hw9
              focus
               obtain ⟨rest,hrest⟩ : ∃ rest,E1.take k ++ E1.drop (k + 1) = rest:=⟨_,rfl⟩
               rw [hrest] at H8
               have H9:Own w w9 (rowE (.slice B7 (m - 1) c7) (m - 1) rest :: (entsT (.slice B2 m c2) m E2 ++ X)):=HB.out.overY H8
               have HRL:Hid (rest.length = m - 1):=Lib.hid (by rw [← hrest,List.length_append,List.length_take,List.length_drop,HEL.out]; omega)
               have HRM:Hid (List.map (fun e:EntM => e.x) (rest ++ [(⟨⟨xtb,xkey,xoth,xln,xpr,1 + (bv:Int),xargs,0,5,xck,xtl⟩,.slice Aa na ca⟩ : EntM)]) = s2.L.map (fun h:HeldM => h.x)):=Lib.hid (by
                rw [← hrest,HL2.out]
                simp only [List.map_append,List.map_cons,List.map_nil,List.map_take,List.map_drop]
                rw [HE.out])
               have HRE:Hid (∀ e ∈ rest,e ∈ E1):=Lib.hid fun e he => by
                rw [← hrest] at he
                rcases List.mem_append.1 he with h | h
                · exact List.mem_of_mem_take h
                · exact List.mem_of_mem_drop h
               have bx:w9.heap[B5]? = some (.cells #[.int .i64 xtb,.string xkey,.string xoth,.int .i64 xln,.int .i64 xpr,.int .i64 (1 + (bv:Int)),.slice Aa na ca,.int .i64 0,.int .i64 5,.int .u64 xck,.bool xtl] 26 (0,0)):=H9.holds (blkT B5 (#[.int .i64 xtb,.string xkey,.string xoth,.int .i64 xln,.int .i64 xpr,.int .i64 (1 + (bv:Int)),.slice Aa na ca,.int .i64 0,.int .i64 5,.int .u64 xck,.bool xtl]) 26) (.tail _ (List.mem_append_right _ HBX.out))
               have d0:=blk_cell bx 0 (v:=.int .i64 xtb) rfl
               have d1:=blk_cell bx 1 (v:=.string xkey) rfl
               have d2:=blk_cell bx 2 (v:=.string xoth) rfl
               have d3:=blk_cell bx 3 (v:=.int .i64 xln) rfl
               have d4:=blk_cell bx 4 (v:=.int .i64 xpr) rfl
               have d5:=blk_cell bx 5 (v:=.int .i64 (1 + (bv:Int))) rfl
               have d6:=blk_cell bx 6 (v:=.slice Aa na ca) rfl
               have d7:=blk_cell bx 7 (v:=.int .i64 0) rfl
               have d8:=blk_cell bx 8 (v:=.int .i64 5) rfl
               have d9:=blk_cell bx 9 (v:=.int .u64 xck) rfl
               have d10:=blk_cell bx 10 (v:=.bool xtl) rfl
               have hblk:=(H9.blk #[.int .i64 xtb,.string xkey,.string xoth,.int .i64 xln,.int .i64 xpr,.int .i64 (1 + (bv:Int)),.slice Aa na ca,.int .i64 0,.int .i64 5,.int .u64 xck,.bool xtl] 26).head
               have H10:=Lib.hid (H9.blk #[.int .i64 xtb,.string xkey,.string xoth,.int .i64 xln,.int .i64 xpr,.int .i64 (1 + (bv:Int)),.slice Aa na ca,.int .i64 0,.int .i64 5,.int .u64 xck,.bool xtl] 26).swap
               have LI:Hid (∀ a,some (⟨w9.heap.size,0,none⟩ : Addr) = some a → ∀ j u,(entC ⟨xtb,xkey,xoth,xln,xpr,1 + (bv:Int),xargs,0,5,xck,xtl⟩ (.slice Aa na ca)).toList[j]? = some u → (w9.alloc (.cells #[.int .i64 xtb,.string xkey,.string xoth,.int .i64 xln,.int .i64 xpr,.int .i64 (1 + (bv:Int)),.slice Aa na ca,.int .i64 0,.int .i64 5,.int .u64 xck,.bool xtl] 26)).cell? (a.add j) = some u):=Lib.hid fun a e j u hu => by
                injection e with e
                subst e
                rw [Addr.add_lit,Nat.zero_add]
                exact blk_cell hblk j (by simpa using hu)
               have O9:Hid (∀ u ∈ (entC ⟨xtb,xkey,xoth,xln,xpr,1 + (bv:Int),xargs,0,5,xck,xtl⟩ (.slice Aa na ca)).toList,u.oneCell' = true):=Lib.hid fun u hu => cellsE_one [⟨⟨xtb,xkey,xoth,xln,xpr,1 + (bv:Int),xargs,0,5,xck,xtl⟩,.slice Aa na ca⟩] (fun e he => by
                obtain rfl:e = _:=by simpa using he
                rfl) u (by simpa [cellsE] using hu)
               have S6:Hid (m - 1 + 1 ≤ maxLen):=Lib.hid (by unfold maxLen; omega)
               have S7:Hid ((m - 1 + 1) * 120 ≤ 140737488355328):=Lib.hid (by omega)
               have S8:Hid (m - 1 + 1 = m):=Lib.hid (by omega)
               have HSM:Hid (∀ x ∈ s2.L.map (fun h:HeldM => h.x),x.args.length < 100000):=Lib.hid fun x hx => by
                obtain ⟨h,hh,rfl⟩:=List.mem_map.1 hx
                have:=HG2.out.may h hh
                unfold mayT at this
                have:=(of_decide_eq_true (Bool.and_eq_true_iff.1 this).1).2.2.2.1
                omega
               have hm5:m < 100000:=by omega
               clear H8 H6 HC6 HCD HLT HLD HDN S1 S2 S3 S4 S5 O1 O2 hD hrest hblk bx H9 hk0 hkc hkc2 hkc3 hkc4 hkc5 hkc6
               have HZT:=Lib.hid (fun (B8:Option Addr) (c8:Nat) (w10:World) (lit:Thing) (H11:Own w w10 (rowT 26 11 (.slice B8 m c8) m (cellsE (rest ++ [⟨⟨xtb,xkey,xoth,xln,xpr,1 + (bv:Int),xargs,0,5,xck,xtl⟩,.slice Aa na ca⟩])) :: lit :: (entsT (.slice B2 m c2) m E2 ++ X))) => yentries_c (Bb:=B8) (cb:=c8) (H11.perm (List.perm_append_comm_assoc [_,_] (entsT (.slice B2 m c2) m E2) X)) HE2.out (by rw [List.length_map]; exact HN2.out) hm5 (fun W hW => by
                have q:=ents_at2 (B:=B8) (n:=m) (c:=c8) (E:=rest ++ [⟨⟨xtb,xkey,xoth,xln,xpr,1 + (bv:Int),xargs,0,5,xck,xtl⟩,.slice Aa na ca⟩]) hW (.head _) (fun e he => by
                 rcases List.mem_append.1 he with h | h
                 · exact args_held hW (.tail _ (.tail _ (HXA.out e (HRE.out e h))))
                 · obtain rfl:e = _:=by simpa using h
                   exact args_held (e:=⟨⟨xtb,xkey,xoth,xln,xpr,xbk,xargs,xidle,xhard,xck,xtl⟩,.slice Aa na ca⟩) hW (.tail _ (.tail _ (HXA.out _ (List.mem_of_getElem? HEE.out))))) (by rw [List.length_append,HRL.out,List.length_singleton]; exact S8.out)
                rw [HRM.out] at q
                exact q) HSM.out)
               go_upto_region 28 with (first
                | (at_builtin; refine wpList_append_thing rfl (.tmp 113) (.tmp 115) 48 rfl 26 i0 _ 11 120 Tryz.underlying48 hi hz0 hz1 hz2 rfl (by decide) (.slice B7 (m - 1) c7) (m - 1) (cellsE rest) rfl H10.out (some ⟨w9.heap.size,0,none⟩) 1 1 (entC ⟨xtb,xkey,xoth,xln,xpr,1 + (bv:Int),xargs,0,5,xck,xtl⟩ (.slice Aa na ca)).toList rfl rfl (fun e => by cases e) LI.out O9.out S6.out S7.out S8.out (cellsE_snoc rest ⟨xtb,xkey,xoth,xln,xpr,1 + (bv:Int),xargs,0,5,xck,xtl⟩ (.slice Aa na ca)) ?_; intro B8 c8 w10 H11; clear d0 d1 d2 d3 d4 d5 d6 d7 d8 d9 d10; have zt:=HZT.out B8 c8 w10 _ H11)
                | (go_at_call 27; ((with_reducible refine zt.mono ?_); rintro e w11 ⟨rfl,H12⟩; have HH12:=Lib.hid H12; clear zt H11 H12)))
               have K12:StoreIs w w11 R5 S s2:=⟨Xs0,Ts0,by have h:=HH12.out.drop.drop; rw [← HXX.out,← HTS.out,List.append_assoc] at h; exact h,HST.out⟩
               clear HH12 HB HST HC HAV HXA HXX HRL HRM HRE LI O9 S6 S7 S8 HSM H10
               obtain ⟨tt,htt⟩ : ∃ t,clampT now = t:=⟨_,rfl⟩
               have htb:=clampT_le now
               have hcl:clampT now = max 0 (min now 1099511627776):=rfl
               have hmm:min (max now 0) 1099511627776 = tt:=by rw [← htt,hcl]; omega
               rw [htt] at htb
               have HL3:Hid (s2.L = (s.L.take k ++ s.L.drop (k + 1)) ++ [⟨⟨xtb,xkey,xoth,xln,xpr,1 + (bv:Int),xargs,0,5,xck,xtl⟩,tt,tt⟩]):=Lib.hid (by rw [← htt]; exact HL2.out)
               clear htt hcl HL2
               by_cases dt:1099511627771 < min (max now 0) 1099511627776
               · go_wp2
                 go_ret
                 exact ⟨rfl,K12.wider⟩
               · focus
                  go_upto_region 31 with (fail)
                  rw [hmm] at dt
                  clear hmm
                  have v4:IntKind.i64.wrap (tt + 4) = tt + 4:=by simp [IntKind.wrap,IntKind.bits,IntKind.signed]; omega
                  have v5:IntKind.i64.wrap (tt + 5) = tt + 5:=by simp [IntKind.wrap,IntKind.bits,IntKind.signed]; omega
                  have c4':clampT (tt + 4) = tt + 4:=clampT_id (by omega) (by omega)
                  have c5':clampT (tt + 5) = tt + 5:=clampT_id (by omega) (by omega)
                  obtain ⟨u4,hu4⟩ : ∃ k,(outT (tt + 4) s2.L).length = k:=⟨_,rfl⟩
                  obtain ⟨u5,hu5⟩ : ∃ q,(outT (tt + 5) (s.L.take k ++ s.L.drop (k + 1))).length = q:=⟨_,rfl⟩
                  obtain ⟨hl5,hn5⟩:=late_yes HG2.out.l HL3.out rfl
                  have hu6:(outT (tt + 5) s2.L).length = u5 + 1:=by rw [hl5,List.length_append,hu5]; rfl
                  have hu4m:u4 ≤ m:=by rw [← hu4,← HN2.out]; unfold outT; rw [List.length_map]; exact List.length_filter_le _ _
                  have hu5m:u5 + 1 ≤ m:=by rw [← hu6,← HN2.out]; unfold outT; rw [List.length_map]; exact List.length_filter_le _ _
                  have zc:=fun {R:List Thing} (W:World) (k:StoreIs w W R S s2) => ycopy_c k HN8.out
                  have zx:=fun {R:List Thing} (W:World) (T:Nat) (k:StoreTwo w W R T s2 S s2) => ycopyg_c k HN8.out (tt + 4) (n:=u4) (by rw [c4']; exact hu4)
                  have zy:=fun {R:List Thing} (W:World) (T:Nat) (k:StoreTwo w W R T s2 S s2) => ycopyg_c k HN8.out (tt + 5) (n:=u5 + 1) (by rw [c5']; exact hu6)
                  have HU:=Lib.hid (And.intro hu4 (And.intro hu5 (And.intro hl5 (And.intro hn5 hu6))))
                  clear hu4 hu5 hl5 hn5 hu6
                  go_upto_region 32 with (first
                   | (go_at_call 20; ((with_reducible refine (zc _ K12).mono ?_); rintro e w12 ⟨T1,rfl,K13⟩; clear K12))
                   | (go_at_call 17; ((with_reducible refine (zx _ _ K13).mono ?_); rintro e w13 ⟨B9,c9,G9,rfl,hG9,K14⟩; clear K13 zx))
                   | (go_at_call 20; ((with_reducible refine (zc _ K14).mono ?_); rintro e w14 ⟨T2,rfl,K15⟩; clear K14 zc))
                   | (go_at_call 17; ((with_reducible refine (zy _ _ K15).mono ?_); rintro e w15 ⟨BA,cA,GA,rfl,hGA,K16⟩; clear K15 zy)))
                  rw [c4'] at hG9
                  rw [c5'] at hGA
                  have l9:G9.length = u4:=by rw [← HU.out.1,← hG9,List.length_map]
                  have lA:GA.length = u5 + 1:=by rw [← HU.out.2.2.2.2,← hGA,List.length_map]
                  have HGG:=Lib.hid (And.intro hG9 (And.intro hGA (And.intro l9 lA)))
                  clear hG9 hGA l9 lA v4 v5 c4' c5'
                  go_wp2
                  go_loopw [25] (fun a wr => ∃ j:Nat,j ≤ u4 ∧ a = .int .i64 (j:Int) ∧ StoreIs w wr (gonesT (.slice BA (u5 + 1) cA) (u5 + 1) GA ++ (gonesT (.slice B9 u4 c9) u4 G9 ++ R5)) S s2) (fun a _ => u4 - (intOf a).toNat)
                  case atStart => exact ⟨0,Nat.zero_le _,rfl,K16⟩
                  case round =>
                   clear K16
                   obtain ⟨j,hj,rfl,K⟩:=hrel
                   have j0:(0:Int) ≤ (j:Int):=by omega
                   by_cases dj:j < u4
                   · focus
                      have j1:(j:Int) < (u4:Int):=by omega
                      obtain ⟨⟨y,ty⟩,hy⟩ : ∃ y,(outT (tt + 4) s2.L)[j]? = some y:=⟨(outT (tt + 4) s2.L)[j]'(by rw [HU.out.1]; exact dj),List.getElem?_eq_getElem _⟩
                      have no:¬ OneE y ⟨xtb,xkey,xoth,xln,xpr,1 + (bv:Int),xargs,0,5,xck,xtl⟩:=early_no HG2.out.l HL3.out rfl rfl (List.mem_of_getElem? hy)
                      obtain ⟨sm1,sm2⟩ : y.key.size ≤ 32 ∧ y.oth.size ≤ 32:=by
                       have mm:=List.mem_of_getElem? hy
                       unfold outT at mm
                       obtain ⟨q,hq,eq⟩:=List.mem_map.1 mm
                       have e:q.x = y:=(Prod.mk.inj eq).1
                       rw [← e]
                       exact HG2.out.small q (List.mem_filter.1 hq).1
                      obtain ⟨Bg,eG,kg⟩:=gones_at K.rest (fun t ht => List.mem_append_right _ (List.mem_append_left _ ht)) HGG.out.2.2.1 (j:=j) (x:=y) (tag:=ty) (by rw [HGG.out.1]; exact hy)
                      subst eG
                      obtain ⟨⟨Ag,ng,cg,hng,rg,g0,g1,g2,g3,g4,g5,g6,g7,g8,g9,g10⟩,gt⟩:=kg
                      have bx:wr.heap[B5]? = some (.cells #[.int .i64 xtb,.string xkey,.string xoth,.int .i64 xln,.int .i64 xpr,.int .i64 (1 + (bv:Int)),.slice Aa na ca,.int .i64 0,.int .i64 5,.int .u64 xck,.bool xtl] 26 (0,0)):=K.rest.holds (blkT B5 (#[.int .i64 xtb,.string xkey,.string xoth,.int .i64 xln,.int .i64 xpr,.int .i64 (1 + (bv:Int)),.slice Aa na ca,.int .i64 0,.int .i64 5,.int .u64 xck,.bool xtl]) 26) (List.mem_append_right _ (List.mem_append_right _ HR5.out))
                      have d0:=blk_cell bx 0 (v:=.int .i64 xtb) rfl
                      have d1:=blk_cell bx 1 (v:=.string xkey) rfl
                      have d2:=blk_cell bx 2 (v:=.string xoth) rfl
                      have d3:=blk_cell bx 3 (v:=.int .i64 xln) rfl
                      have d4:=blk_cell bx 4 (v:=.int .i64 xpr) rfl
                      have d5:=blk_cell bx 5 (v:=.int .i64 (1 + (bv:Int))) rfl
                      have d6:=blk_cell bx 6 (v:=.slice Aa na ca) rfl
                      have d7:=blk_cell bx 7 (v:=.int .i64 0) rfl
                      have d8:=blk_cell bx 8 (v:=.int .i64 5) rfl
                      have d9:=blk_cell bx 9 (v:=.int .u64 xck) rfl
                      have d10:=blk_cell bx 10 (v:=.bool xtl) rfl
                      have zo:=fun (z:After wr) => zone_c y ⟨xtb,xkey,xoth,xln,xpr,1 + (bv:Int),xargs,0,5,xck,xtl⟩ Ag ng cg Aa na ca (decide_eq_false no) z.w
                      obtain ⟨ytb,ykey,yoth,yln,ypr,ybk,yargs,yidle,yhard,yck,ytl⟩:=y
                      have g0':=fun (z:After wr) => wkeep z.h g0
                      have g1':=fun (z:After wr) => wkeep z.h g1
                      have g2':=fun (z:After wr) => wkeep z.h g2
                      have g3':=fun (z:After wr) => wkeep z.h g3
                      have g4':=fun (z:After wr) => wkeep z.h g4
                      have g5':=fun (z:After wr) => wkeep z.h g5
                      have g6':=fun (z:After wr) => wkeep z.h g6
                      have g7':=fun (z:After wr) => wkeep z.h g7
                      have g8':=fun (z:After wr) => wkeep z.h g8
                      have g9':=fun (z:After wr) => wkeep z.h g9
                      have g10':=fun (z:After wr) => wkeep z.h g10
                      have gt':=fun (z:After wr) => wkeep z.h gt
                      have d0':=fun (z:After wr) => wkeep z.h d0
                      have d1':=fun (z:After wr) => wkeep z.h d1
                      have d2':=fun (z:After wr) => wkeep z.h d2
                      have d3':=fun (z:After wr) => wkeep z.h d3
                      have d4':=fun (z:After wr) => wkeep z.h d4
                      have d5':=fun (z:After wr) => wkeep z.h d5
                      have d6':=fun (z:After wr) => wkeep z.h d6
                      have d7':=fun (z:After wr) => wkeep z.h d7
                      have d8':=fun (z:After wr) => wkeep z.h d8
                      have d9':=fun (z:After wr) => wkeep z.h d9
                      have d10':=fun (z:After wr) => wkeep z.h d10
                      have HK:=Lib.hid K
                      clear K no hy hng rg sm1 sm2 gt bx g0 g1 g2 g3 g4 g5 g6 g7 g8 g9 g10 d0 d1 d2 d3 d4 d5 d6 d7 d8 d9 d10
                      go_upto_region 36 with (fail)
                      refine wp_region_after (by kernel_rfl) (by kernel_rfl) (Wider.refl wr) ?_
                      repeat (go_big_quiet_step (first | (go_at_call 26; with_reducible exact quiet_after (zo _))))
                      refine wpQuiet_nil ?_
                      rintro _ ⟨z,rfl⟩
                      have K2:=HK.out.quiet z.h
                      clear zo g0' g1' g2' g3' g4' g5' g6' g7' g8' g9' g10' gt' d0' d1' d2' d3' d4' d5' d6' d7' d8' d9' d10'
                      go_wp2
                      go_roundw
                      case rel => exact ⟨j + 1,by omega,by go_num,K2⟩
                      case measure => simp [intOf]; omega
                   · obtain rfl:u4 = j:=by omega
                     have j1:¬ (u4:Int) < (u4:Int):=by omega
                     have K16:=K
                     clear K
                     go_wp2
                     go_loopw [24,26] (fun b a wr => ∃ (j h:Nat),j ≤ u5 + 1 ∧ h = (if j = u5 + 1 then 1 else 0) ∧ b = .int .i64 (h:Int) ∧ a = .int .i64 (j:Int) ∧ StoreIs w wr (gonesT (.slice BA (u5 + 1) cA) (u5 + 1) GA ++ (gonesT (.slice B9 u4 c9) u4 G9 ++ R5)) S s2) (fun _ a _ => u5 + 1 - (intOf a).toNat)
                     case atStart => exact ⟨0,0,Nat.zero_le _,by rw [if_neg (by omega)],rfl,rfl,K16⟩
                     case round =>
                      clear K16
                      obtain ⟨j,h,hj,hh,rfl,rfl,K⟩:=hrel
                      have j0:(0:Int) ≤ (j:Int):=by omega
                      by_cases dj:j < u5 + 1
                      · have j1:(j:Int) < ((u5 + 1:Nat):Int):=by omega
                        have j2:(j:Int) < (u5:Int) + 1:=by omega
                        obtain rfl:h = 0:=by rw [hh,if_neg (by omega)]
                        clear hh
                        obtain ⟨hu4,hu5,hl5,hn5,hu6⟩:=HU.out
                        obtain ⟨⟨y,ty⟩,hy⟩ : ∃ y,(outT (tt + 5) s2.L)[j]? = some y:=⟨(outT (tt + 5) s2.L)[j]'(by rw [hu6]; exact dj),List.getElem?_eq_getElem _⟩
                        have hy2:=hy
                        rw [hl5] at hy2
                        obtain ⟨sm1,sm2⟩ : y.key.size ≤ 32 ∧ y.oth.size ≤ 32:=by
                         have mm:=List.mem_of_getElem? hy
                         unfold outT at mm
                         obtain ⟨q,hq,eq⟩:=List.mem_map.1 mm
                         have e:q.x = y:=(Prod.mk.inj eq).1
                         rw [← e]
                         exact HG2.out.small q (List.mem_filter.1 hq).1
                        obtain ⟨Bg,eG,kg⟩:=gones_at K.rest (fun t ht => List.mem_append_left _ ht) HGG.out.2.2.2 (j:=j) (x:=y) (tag:=ty) (by rw [HGG.out.2.1]; exact hy)
                        subst eG
                        obtain ⟨⟨Ag,ng,cg,hng,rg,g0,g1,g2,g3,g4,g5,g6,g7,g8,g9,g10⟩,gt⟩:=kg
                        have bx:wr.heap[B5]? = some (.cells #[.int .i64 xtb,.string xkey,.string xoth,.int .i64 xln,.int .i64 xpr,.int .i64 (1 + (bv:Int)),.slice Aa na ca,.int .i64 0,.int .i64 5,.int .u64 xck,.bool xtl] 26 (0,0)):=K.rest.holds (blkT B5 (#[.int .i64 xtb,.string xkey,.string xoth,.int .i64 xln,.int .i64 xpr,.int .i64 (1 + (bv:Int)),.slice Aa na ca,.int .i64 0,.int .i64 5,.int .u64 xck,.bool xtl]) 26) (List.mem_append_right _ (List.mem_append_right _ HR5.out))
                        have d0:=blk_cell bx 0 (v:=.int .i64 xtb) rfl
                        have d1:=blk_cell bx 1 (v:=.string xkey) rfl
                        have d2:=blk_cell bx 2 (v:=.string xoth) rfl
                        have d3:=blk_cell bx 3 (v:=.int .i64 xln) rfl
                        have d4:=blk_cell bx 4 (v:=.int .i64 xpr) rfl
                        have d5:=blk_cell bx 5 (v:=.int .i64 (1 + (bv:Int))) rfl
                        have d6:=blk_cell bx 6 (v:=.slice Aa na ca) rfl
                        have d7:=blk_cell bx 7 (v:=.int .i64 0) rfl
                        have d8:=blk_cell bx 8 (v:=.int .i64 5) rfl
                        have d9:=blk_cell bx 9 (v:=.int .u64 xck) rfl
                        have d10:=blk_cell bx 10 (v:=.bool xtl) rfl
                        by_cases dl:j < u5
                        · focus
                           have no:¬ OneE y ⟨xtb,xkey,xoth,xln,xpr,1 + (bv:Int),xargs,0,5,xck,xtl⟩:=hn5 (y,ty) (by
                            rw [List.getElem?_append_left (by rw [hu5]; exact dl)] at hy2
                            exact List.mem_of_getElem? hy2)
                           have zo:=fun (z:After wr) => zone_c y ⟨xtb,xkey,xoth,xln,xpr,1 + (bv:Int),xargs,0,5,xck,xtl⟩ Ag ng cg Aa na ca (decide_eq_false no) z.w
                           obtain ⟨ytb,ykey,yoth,yln,ypr,ybk,yargs,yidle,yhard,yck,ytl⟩:=y
                           have g0':=fun (z:After wr) => wkeep z.h g0
                           have g1':=fun (z:After wr) => wkeep z.h g1
                           have g2':=fun (z:After wr) => wkeep z.h g2
                           have g3':=fun (z:After wr) => wkeep z.h g3
                           have g4':=fun (z:After wr) => wkeep z.h g4
                           have g5':=fun (z:After wr) => wkeep z.h g5
                           have g6':=fun (z:After wr) => wkeep z.h g6
                           have g7':=fun (z:After wr) => wkeep z.h g7
                           have g8':=fun (z:After wr) => wkeep z.h g8
                           have g9':=fun (z:After wr) => wkeep z.h g9
                           have g10':=fun (z:After wr) => wkeep z.h g10
                           have gt':=fun (z:After wr) => wkeep z.h gt
                           have d0':=fun (z:After wr) => wkeep z.h d0
                           have d1':=fun (z:After wr) => wkeep z.h d1
                           have d2':=fun (z:After wr) => wkeep z.h d2
                           have d3':=fun (z:After wr) => wkeep z.h d3
                           have d4':=fun (z:After wr) => wkeep z.h d4
                           have d5':=fun (z:After wr) => wkeep z.h d5
                           have d6':=fun (z:After wr) => wkeep z.h d6
                           have d7':=fun (z:After wr) => wkeep z.h d7
                           have d8':=fun (z:After wr) => wkeep z.h d8
                           have d9':=fun (z:After wr) => wkeep z.h d9
                           have d10':=fun (z:After wr) => wkeep z.h d10
                           have HK:=Lib.hid K
                           clear K no hy hy2 hng rg sm1 sm2 bx hu4 hu5 hl5 hn5 hu6 g0 g1 g2 g3 g4 g5 g6 g7 g8 g9 g10 gt d0 d1 d2 d3 d4 d5 d6 d7 d8 d9 d10
                           go_upto_region 41 with (fail)
                           refine wp_region_after (by kernel_rfl) (by kernel_rfl) (Wider.refl wr) ?_
                           repeat (go_big_quiet_step (first | (go_at_call 26; with_reducible exact quiet_after (zo _))))
                           refine wpQuiet_nil ?_
                           rintro _ ⟨z,rfl⟩
                           have K2:=HK.out.quiet z.h
                           clear zo g0' g1' g2' g3' g4' g5' g6' g7' g8' g9' g10' gt' d0' d1' d2' d3' d4' d5' d6' d7' d8' d9' d10'
                           go_wp2
                           go_roundw
                           case rel => exact ⟨j + 1,0,by omega,by rw [if_neg (by omega)],by go_num,by go_num,K2⟩
                           case measure => simp [intOf]; omega
                        · focus
                           obtain rfl:j = u5:=by omega
                           obtain ⟨rfl,rfl⟩ : y = ⟨xtb,xkey,xoth,xln,xpr,1 + (bv:Int),xargs,0,5,xck,xtl⟩ ∧ ty = 1:=by
                            rw [List.getElem?_append_right (by rw [hu5]; exact Nat.le_refl _),hu5,Nat.sub_self] at hy2
                            have:=(Option.some.inj hy2).symm
                            exact ⟨(Prod.mk.inj this).1,(Prod.mk.inj this).2⟩
                           have zo:=fun (z:After wr) => zone_c ⟨xtb,xkey,xoth,xln,xpr,1 + (bv:Int),xargs,0,5,xck,xtl⟩ ⟨xtb,xkey,xoth,xln,xpr,1 + (bv:Int),xargs,0,5,xck,xtl⟩ Ag ng cg Aa na ca (decide_eq_true (OneE.refl _)) z.w
                           have g0':=fun (z:After wr) => wkeep z.h g0
                           have g1':=fun (z:After wr) => wkeep z.h g1
                           have g2':=fun (z:After wr) => wkeep z.h g2
                           have g3':=fun (z:After wr) => wkeep z.h g3
                           have g4':=fun (z:After wr) => wkeep z.h g4
                           have g5':=fun (z:After wr) => wkeep z.h g5
                           have g6':=fun (z:After wr) => wkeep z.h g6
                           have g7':=fun (z:After wr) => wkeep z.h g7
                           have g8':=fun (z:After wr) => wkeep z.h g8
                           have g9':=fun (z:After wr) => wkeep z.h g9
                           have g10':=fun (z:After wr) => wkeep z.h g10
                           have gt':=fun (z:After wr) => wkeep z.h gt
                           have d0':=fun (z:After wr) => wkeep z.h d0
                           have d1':=fun (z:After wr) => wkeep z.h d1
                           have d2':=fun (z:After wr) => wkeep z.h d2
                           have d3':=fun (z:After wr) => wkeep z.h d3
                           have d4':=fun (z:After wr) => wkeep z.h d4
                           have d5':=fun (z:After wr) => wkeep z.h d5
                           have d6':=fun (z:After wr) => wkeep z.h d6
                           have d7':=fun (z:After wr) => wkeep z.h d7
                           have d8':=fun (z:After wr) => wkeep z.h d8
                           have d9':=fun (z:After wr) => wkeep z.h d9
                           have d10':=fun (z:After wr) => wkeep z.h d10
                           have HK:=Lib.hid K
                           clear K  hy hy2 hng rg sm1 sm2 bx hu4 hu5 hl5 hn5 hu6 g0 g1 g2 g3 g4 g5 g6 g7 g8 g9 g10 gt d0 d1 d2 d3 d4 d5 d6 d7 d8 d9 d10
                           go_upto_region 41 with (fail)
                           refine wp_region_after (by kernel_rfl) (by kernel_rfl) (Wider.refl wr) ?_
                           repeat (go_big_quiet_step (first | (go_at_call 26; with_reducible exact quiet_after (zo _))))
                           refine wpQuiet_nil ?_
                           rintro _ ⟨z,rfl⟩
                           have K2:=HK.out.quiet z.h
                           clear zo g0' g1' g2' g3' g4' g5' g6' g7' g8' g9' g10' gt' d0' d1' d2' d3' d4' d5' d6' d7' d8' d9' d10'
                           go_wp2
                           go_roundw
                           case rel => exact ⟨j + 1,1,by omega,by rw [if_pos rfl],by go_num,by go_num,K2⟩
                           case measure => simp [intOf]
                      · obtain rfl:j = u5 + 1:=by omega
                        rw [if_pos rfl] at hh
                        subst hh
                        have j1:¬ ((u5 + 1:Nat):Int) < ((u5 + 1:Nat):Int):=by omega
                        go_wp2
                        go_ret
                        exact ⟨rfl,K.wider⟩
theorem tableAgain_walk (w:World) (t:TabV) (KA:Option Addr) (kn kc:Nat) (hk:NumsAt w (.slice KA kn kc) t.keys) (hkl:t.keys.length ≤ maxLen) (hcap:-9223372036854775808 ≤ t.cap ∧ t.cap ≤ 9223372036854775807) (WA:Option Addr) (wn wc:Nat) (zs:List Int) (hw:NumsAt w (.slice WA wn wc) zs) (hwl:zs.length ≤ maxLen)
 (A:Option Addr) (n cap:Nat) (l:List ActT) (hl:l.length = n) (ha:ActsTAt w A l) (hn:l.length ≤ maxLen) (hz:∀ y ∈ l,y.Ok) (which:Int) (a0:-9223372036854775808 ≤ which) (a1:which ≤ 9223372036854775807) (block:Int) (b0:-9223372036854775808 ≤ block) (b1:block ≤ 9223372036854775807) (now:Int) (hn0:-9223372036854775808 ≤ now) (hn1:now ≤ 9223372036854775807) :
 Calls Tryz.prog 5 #[.agg (tabC t (.slice KA kn kc)),.slice WA wn wc,.slice A n cap,.int .i64 which,.int .i64 block,.int .i64 now] w fun e w' => e = .returned (.bool true) ∧ Wider w w' :=
 tableAgain_walk0 w t KA kn kc hk hkl hcap WA wn wc zs hw hwl A n cap l hl ha hn hz which block now ⟨a0,a1⟩ ⟨b0,b1⟩ hn0 hn1
set_option maxRecDepth 100000 in
theorem tableAgain_lifted (os:Os) (started:os.Started) (H:Type) (enc:TypeId × Value → H) :
 ReturnsInHanded {} Tryz.checked os 5 .any (Rows.tableAgainSpec.pre6 enc Tryz.prog Tryz.f5 Rows.tableAgainRow.domain false) (Rows.tableAgainSpec.post enc Tryz.prog Tryz.f5 false true false false) := by
 refine returnsInHanded_of_change (C:=Tryz.checked) own started (by kernel_rfl) Tryz.func5
  (ChangeSpec.witness6 (enc:=enc) (C:=Tryz.checked) false ⟨#[],#[.agg #[.int .i64 0,.int .u8 0,.slice none 0 0,.int .i64 0,.int .i64 0],.slice none 0 0,.slice none 0 0,.int .i64 0,.int .i64 0,.int .i64 0],[]⟩ 8 (by kernel_rfl) (by kernel_rfl) (by kernel_rfl) (by kernel_rfl)) ?_
 intro W base args ds gs before hval0 hW hcnd _
 have hval:∀ (j:Nat) t v,Tryz.f5.params[j]? = some t → args[j]? = some v → Value.okWide Tryz.prog W .any base t v:=hval0
 have hW':=hW
 obtain ⟨p,q,hA0,hV,rfl,hfz,hnd⟩:=hW
 have hA:DataW.TrodAll enc Tryz.prog W 0 (fun _ => true) true Tryz.f5.params.toList args.toList ds p:=hA0
 rw [Tryz.params5] at hA hval
 obtain ⟨v0,vs0,d0,ds0,p0,q0,hargs,rfl,rfl,h0,r0⟩:=trodAll_cons hA
 obtain ⟨v1,vs1,d1,ds1,p1,q1,rfl,rfl,rfl,h1,r1⟩:=trodAll_cons r0
 obtain ⟨v2,vs2,d2,ds2,p2,q2,rfl,rfl,rfl,h2,r2⟩:=trodAll_cons r1
 obtain ⟨v3,vs3,d3,ds3,p3,q3,rfl,rfl,rfl,h3,r3⟩:=trodAll_cons r2
 obtain ⟨v4,vs4,d4,ds4,p4,q4,rfl,rfl,rfl,h4,r4⟩:=trodAll_cons r3
 obtain ⟨v5,vs5,d5,ds5,p5,q5,rfl,rfl,rfl,h5,r5⟩:=trodAll_cons r4
 obtain ⟨rfl,rfl,rfl⟩:=trodAll_nil r5
 obtain rfl:args = #[v0,v1,v2,v3,v4,v5]:=by cases args; simp_all
 obtain ⟨rfl,rfl⟩:=trodVars_none hV
 have h0k:=h0
 obtain ⟨t0,KA0,kn0,kc0,rfl,hk0,hkl0,hc0⟩:=open_tab2 (hval 0 36 v0 rfl rfl) h0
 have h1k:=h1
 obtain ⟨A1,len1,cap1,rfl⟩:=okWide_slice Tryz.underlying34 (hval 1 34 v1 rfl rfl)
 obtain ⟨fuel1,hf1⟩:=h1
 obtain ⟨zs1,hw1,hwl1⟩:=open_nums hf1
 have h2k:=h2
 obtain ⟨A2,len2,cap2,rfl⟩:=okWide_slice Tryz.underlying54 (hval 2 54 v2 rfl rfl)
 obtain ⟨fuel2,hf2⟩:=h2
 obtain ⟨l2,hl2,ha2,hm2,hz2⟩:=open_actsT hf2
 obtain ⟨n3,rfl,rfl,rfl,w3⟩:=open_int Tryz.underlying3 (hval 3 3 v3 rfl rfl) h3
 obtain ⟨n4,rfl,rfl,rfl,w4⟩:=open_int Tryz.underlying3 (hval 4 3 v4 rfl rfl) h4
 obtain ⟨n5,rfl,rfl,rfl,w5⟩:=open_int Tryz.underlying2 (hval 5 2 v5 rfl rfl) h5
 clear hA0 hval0
 simp only [List.append_nil] at hW'
 refine (tableAgain_walk W t0 KA0 kn0 kc0 hk0 hkl0 hc0 A1 len1 cap1 zs1 hw1 hwl1 A2 len2 cap2 l2 hl2 ha2 hm2 hz2 n3 (bounds_i64 w3).1 (bounds_i64 w3).2 n4 (bounds_i64 w4).1 (bounds_i64 w4).2 n5 (bounds_i64 w5).1 (bounds_i64 w5).2).mono fun e W' ⟨he,hg⟩ => ?_
 subst he
 have hlt:∀ x ∈ p0 ++ (p1 ++ (p2)),x.block < W.heap.size:=fun x hx => by simpa using hW'.lt x hx
 exact ⟨_,rfl,post_of_wider (pv:=[]) hW' (fun _ _ _ => (trodAll_cons_mk (shut_bool Tryz.underlying4 _) trodAll_mk0)) (fun sp hsp => (trodAll_cons_mk (WideElems.Trod_stays laid3 (by kernel_rfl) (of_decide_eq_true (by kernel_rfl)) h0k (fun x hx => wsame hg (hlt x (by simp [hx]))) (fun x hx => hsp x (by simp [hx]))) (trodAll_cons_mk (WideElems.Trod_stays laid3 (by kernel_rfl) (of_decide_eq_true (by kernel_rfl)) h1k (fun x hx => wsame hg (hlt x (by simp [hx]))) (fun x hx => hsp x (by simp [hx]))) (trodAll_cons_mk (WideElems.Trod_stays laid3 (by kernel_rfl) (of_decide_eq_true (by kernel_rfl)) h2k (fun x hx => wsame hg (hlt x (by simp [hx]))) (fun x hx => hsp x (by simp [hx]))) (trodAll_cons_mk (shut_int Tryz.underlying3 w3) (trodAll_cons_mk (shut_int Tryz.underlying3 w4) (trodAll_cons_mk (shut_int Tryz.underlying2 w5) trodAll_mk0))))))) (fun _ _ => rfl) (by simp)
  hg (ok_one (by kernel_rfl) rfl (okWide_bool_mk Tryz.underlying4 _))⟩
theorem tableAgain_holds : Rows.TableAgainSaid :=
 OpenClaim.holds_of_wide 5 Tryz.f5 rfl rfl rfl rfl rfl rfl rfl ⟨rfl,rfl,rfl,rfl,rfl⟩ rfl rfl rfl rfl rfl (by kernel_rfl) Tryz.func5 (by kernel_rfl)
  (of_decide_eq_true (by kernel_rfl)) (by unfold Func.isWrapper; first | (rw [if_pos (by decide +kernel)]; kernel_rfl) | (rw [if_neg (by decide +kernel)]; exact ⟨rfl,rfl⟩))
  (fun os started H enc _ => tableAgain_lifted os started H enc)
#print axioms tableAgain_holds
end Go.Proofs.YtbnpelciceblfaaGreat
