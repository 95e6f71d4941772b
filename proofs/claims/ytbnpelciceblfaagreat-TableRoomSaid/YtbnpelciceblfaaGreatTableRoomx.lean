/- There are never more entries than Cap; where there are as many, only the same one as one of them can be put: for all tables, widths, acts and entries, the statement's function returns true. The condition: no text and no row takes more than reachBytes bytes, as the form itself asks. -/
import Derived.Test.YtbnpelciceblfaaGreatP33
namespace Go.Proofs.YtbnpelciceblfaaGreat
set_option linter.unusedVariables false
open Go.ChangeShapes Go.WideShapes Go.ChangeAt Go.RowKit Go.Joins
set_option maxHeartbeats 64000000
theorem newT (w:World) (t:TabV) (kv:Value):(w.alloc (.cells (tabC t kv) 36)).cell? ⟨w.heap.size,0,none⟩ = some (.int .i64 t.id) ∧ (w.alloc (.cells (tabC t kv) 36)).cell? ⟨w.heap.size,1,none⟩ = some (.int .u8 t.kind) ∧ (w.alloc (.cells (tabC t kv) 36)).cell? ⟨w.heap.size,2,none⟩ = some kv ∧ (w.alloc (.cells (tabC t kv) 36)).cell? ⟨w.heap.size,3,none⟩ = some (.int .i64 t.cap) ∧ (w.alloc (.cells (tabC t kv) 36)).cell? ⟨w.heap.size,4,none⟩ = some (.int .i64 t.miss):=by
 simp only [World.cell?_alloc_new]
 exact ⟨rfl,rfl,rfl,rfl,rfl⟩
set_option maxRecDepth 100000 in
theorem tableRoom_walk (w:World) (t:TabV) (KA:Option Addr) (kn kc:Nat) (hk:NumsAt w (.slice KA kn kc) t.keys) (hkl:t.keys.length ≤ maxLen) (hcap:-9223372036854775808 ≤ t.cap ∧ t.cap ≤ 9223372036854775807) (WA:Option Addr) (wn wc:Nat) (zs:List Int) (hw:NumsAt w (.slice WA wn wc) zs) (hwl:zs.length ≤ maxLen)
 (A:Option Addr) (n cap:Nat) (l:List ActT) (hl:l.length = n) (ha:ActsTAt w A l) (hn:l.length ≤ maxLen) (hz:∀ y ∈ l,y.Ok) (x:EntV) (xA:Option Addr) (xn xc:Nat) (hx:ArgsAt w (.slice xA xn xc) x.args) (ho:x.Ok) (hx1:x.key.size ≤ reachBytes) (hx2:x.oth.size ≤ reachBytes) (hx3:x.args.length ≤ reachBytes) :
 Calls Tryz.prog 6 #[.agg (tabC t (.slice KA kn kc)),.slice WA wn wc,.slice A n cap,entV x (.slice xA xn xc)] w fun e w' => e = .returned (.bool true) ∧ Wider w w':=by
 obtain ⟨_,_,_,eK,hkn,-⟩:=id hk
 cases eK
 obtain ⟨_,_,_,eW,hwn,-⟩:=id hw
 cases eW
 obtain ⟨_,_,_,eX,hxn,-⟩:=id hx
 cases eX
 unfold maxLen at hn hkl hwl
 unfold reachBytes at hx1 hx2 hx3
 have H0:Own w w []:=Own.nil (Wider.refl w)
 have H1:=(H0.blk (tabC t (.slice KA kn kc)) 36).blk (entC x (.slice xA xn xc)) 26
 have hsz:(w.alloc (.cells (tabC t (.slice KA kn kc)) 36)).heap.size = w.heap.size + 1:=by simp
 rw [hsz] at H1
 obtain ⟨id,kind,keys,cp,miss⟩:=t
 have hkn:keys.length = kn:=hkn
 have hcap:-9223372036854775808 ≤ cp ∧ cp ≤ 9223372036854775807:=hcap
 have ok:∀ x ∈ l,x.x.key.size ≤ 9223372036854775807 ∧ x.x.oth.size ≤ 9223372036854775807 ∧ x.x.args.length ≤ 9223372036854775807:=fun x hx => by
  have h:=(hz x hx).x; have h1:=h.key; have h2:=h.oth; have h3:=h.args; unfold maxLen at h1 h2 h3; omega
 obtain ⟨b,hb⟩ : ∃ b,decide (6000 ≤ bulkT l) = b:=⟨_,rfl⟩
 have zl:=fun (W:World) (g:Wider w W) => ylong_c A n cap l W (ha.on g) hl (by omega) ok hb
 have s1:IntKind.i64.wrap ((x.key.size:Int) + (x.oth.size:Int)) = (x.key.size:Int) + (x.oth.size:Int):=by simp [IntKind.wrap,IntKind.bits,IntKind.signed]; omega
 have s2:IntKind.i64.wrap ((x.key.size:Int) + (x.oth.size:Int) + (xn:Int)) = (x.key.size:Int) + (x.oth.size:Int) + (xn:Int):=by simp [IntKind.wrap,IntKind.bits,IntKind.signed]; omega
 have c2:=blk_cell H1.second 2 (v:=.slice KA kn kc) rfl
 have d1:=blk_cell H1.head 1 (v:=.string x.key) rfl
 have d2:=blk_cell H1.head 2 (v:=.string x.oth) rfl
 have d6:=blk_cell H1.head 6 (v:=.slice xA xn xc) rfl
 have G:=(Wider.refl w).alloc (.cells #[.int .i64 id,.int .u8 kind,.slice KA kn kc,.int .i64 cp,.int .i64 miss] 36)
 have G:=G.alloc (.cells (entC x (.slice xA xn xc)) 26)
 show Calls Tryz.prog 6 #[.agg #[.int .i64 id,.int .u8 kind,.slice KA kn kc,.int .i64 cp,.int .i64 miss],.slice WA wn wc,.slice A n cap,entV x (.slice xA xn xc)] w _
 obtain ⟨xtb,xkey,xoth,xln,xpr,xbk,xargs,xidle,xhard,xck,xtl⟩:=x
 cases b with
 | true =>
   clear hk hkl hw hwl hl ha hn hz hx ho hx1 hx2 hx3 hkn hwn hxn H0 H1 ok hb hcap hsz
   go_enter Tryz.func6,Tryz.ntmps6
   go_wp2_with (first
    | (go_at_call 23; ((with_reducible refine (zl _ G).mono ?_); rintro e w1 ⟨rfl,g⟩; replace G:=G.trans g; replace c2:=wkeep g c2; replace d1:=wkeep g d1; replace d2:=wkeep g d2; replace d6:=wkeep g d6; clear zl g))
    | (go_at_call 7; ((with_reducible refine (yawake_c _).mono ?_); rintro e w2 ⟨rfl,g⟩; replace G:=G.trans g; clear g)))
   go_ret
   exact ⟨rfl,G⟩
 | false =>
   by_cases b1:100 < kn
   · have i1:(100:Int) < (kn:Int):=by omega
     clear hk hkl hw hwl hl ha hn hz hx ho hx1 hx2 hx3 hkn hwn hxn H0 H1 ok hb hcap hsz b1
     go_enter Tryz.func6,Tryz.ntmps6
     go_wp2_with (first
      | (go_at_call 23; ((with_reducible refine (zl _ G).mono ?_); rintro e w1 ⟨rfl,g⟩; replace G:=G.trans g; replace c2:=wkeep g c2; replace d1:=wkeep g d1; replace d2:=wkeep g d2; replace d6:=wkeep g d6; clear zl g))
      | (go_at_call 7; ((with_reducible refine (yawake_c _).mono ?_); rintro e w2 ⟨rfl,g⟩; replace G:=G.trans g; clear g)))
     go_ret
     exact ⟨rfl,G⟩
   · have i1:¬ (100:Int) < (kn:Int):=by omega
     by_cases b2:100 < wn
     · have i2:(100:Int) < (wn:Int):=by omega
       clear hk hkl hw hwl hl ha hn hz hx ho hx1 hx2 hx3 hkn hwn hxn H0 H1 ok hb hcap hsz b1 b2
       go_enter Tryz.func6,Tryz.ntmps6
       go_wp2_with (first
        | (go_at_call 23; ((with_reducible refine (zl _ G).mono ?_); rintro e w1 ⟨rfl,g⟩; replace G:=G.trans g; replace c2:=wkeep g c2; replace d1:=wkeep g d1; replace d2:=wkeep g d2; replace d6:=wkeep g d6; clear zl g))
        | (go_at_call 7; ((with_reducible refine (yawake_c _).mono ?_); rintro e w2 ⟨rfl,g⟩; replace G:=G.trans g; clear g)))
       go_ret
       exact ⟨rfl,G⟩
     · have i2:¬ (100:Int) < (wn:Int):=by omega
       by_cases b3:1000 < xkey.size + xoth.size + xn
       · have i3:(1000:Int) < (xkey.size:Int) + (xoth.size:Int) + (xn:Int):=by omega
         clear hk hkl hw hwl hl ha hn hz hx ho hx1 hx2 hx3 hkn hwn hxn H0 H1 ok hb hcap hsz b1 b2 b3
         go_enter Tryz.func6,Tryz.ntmps6
         go_wp2_with (first
          | (go_at_call 23; ((with_reducible refine (zl _ G).mono ?_); rintro e w1 ⟨rfl,g⟩; replace G:=G.trans g; replace c2:=wkeep g c2; replace d1:=wkeep g d1; replace d2:=wkeep g d2; replace d6:=wkeep g d6; clear zl g))
          | (go_at_call 7; ((with_reducible refine (yawake_c _).mono ?_); rintro e w2 ⟨rfl,g⟩; replace G:=G.trans g; clear g)))
         go_ret
         exact ⟨rfl,G⟩
       · have i3:¬ (1000:Int) < (xkey.size:Int) + (xoth.size:Int) + (xn:Int):=by omega
         have hn9:n < 90000:=by have:=bulkT_length l; have:=of_decide_eq_false hb; omega
         have zm:=fun {R:List Thing} (W:World) (h:Own w W R) => ymade_c (c:=cap) h (t:=⟨id,kind,keys,cp,miss⟩) hk hw (by show keys.length < 1000; omega) (by omega) ha hl hn9 hz
         have xargsL:xargs.length = xn:=hxn
         clear hkl hwl hl ha hn hz ok hb b1 b2 b3 hk hw c2 d1 d2 d6
         obtain ⟨Bt,hBt⟩ : ∃ B,w.heap.size = B:=⟨_,rfl⟩
         have H2:=H1
         rw [hBt] at H2
         have d0:=blk_cell H1.head 0 (v:=.int .i64 xtb) rfl
         have d1:=blk_cell H1.head 1 (v:=.string xkey) rfl
         have d2:=blk_cell H1.head 2 (v:=.string xoth) rfl
         have d3:=blk_cell H1.head 3 (v:=.int .i64 xln) rfl
         have d4:=blk_cell H1.head 4 (v:=.int .i64 xpr) rfl
         have d5:=blk_cell H1.head 5 (v:=.int .i64 xbk) rfl
         have d6:=blk_cell H1.head 6 (v:=.slice xA xn xc) rfl
         have d7:=blk_cell H1.head 7 (v:=.int .i64 xidle) rfl
         have d8:=blk_cell H1.head 8 (v:=.int .i64 xhard) rfl
         have d9:=blk_cell H1.head 9 (v:=.int .u64 xck) rfl
         have d10:=blk_cell H1.head 10 (v:=.bool xtl) rfl
         have c0:=blk_cell H1.second 0 (v:=.int .i64 id) rfl
         have c1:=blk_cell H1.second 1 (v:=.int .u8 kind) rfl
         have c2:=blk_cell H1.second 2 (v:=.slice KA kn kc) rfl
         have c3:=blk_cell H1.second 3 (v:=.int .i64 cp) rfl
         have c4:=blk_cell H1.second 4 (v:=.int .i64 miss) rfl
         have HX:=Lib.hid hx
         have HO:=Lib.hid ho
         have HXS:=Lib.hid (And.intro hx1 (And.intro hx2 hx3))
         have HC:=Lib.hid hcap
         have HXL:=Lib.hid xargsL
         clear hx ho hx1 hx2 hx3 hkn hwn hxn H0 hsz hcap H1 xargsL
         go_enter Tryz.func6,Tryz.ntmps6
         go_upto_region 1 with (fail)
         try rw [hBt]
         rw [hBt] at d0 d1 d2 d3 d4 d5 d6 d7 d8 d9 d10 c0 c1 c2 c3 c4
         generalize hW0:((w.alloc (.cells #[.int .i64 id,.int .u8 kind,.slice KA kn kc,.int .i64 cp,.int .i64 miss] 36)).alloc (.cells #[.int .i64 xtb,.string xkey,.string xoth,.int .i64 xln,.int .i64 xpr,.int .i64 xbk,.slice xA xn xc,.int .i64 xidle,.int .i64 xhard,.int .u64 xck,.bool xtl] 26)) = W0 at *
         clear hW0 hBt
         go_upto_region 4 with (first
          | (go_at_call 23; ((with_reducible refine (zl _ G).mono ?_); rintro e w1 ⟨rfl,g⟩; replace G:=G.trans g; replace H2:=H2.quiet g; replace d0:=wkeep g d0; replace d1:=wkeep g d1; replace d2:=wkeep g d2; replace d3:=wkeep g d3; replace d4:=wkeep g d4; replace d5:=wkeep g d5; replace d6:=wkeep g d6; replace d7:=wkeep g d7; replace d8:=wkeep g d8; replace d9:=wkeep g d9; replace d10:=wkeep g d10; replace c0:=wkeep g c0; replace c1:=wkeep g c1; replace c2:=wkeep g c2; replace c3:=wkeep g c3; replace c4:=wkeep g c4; clear zl g))
          | (go_at_call 7; ((with_reducible refine (yawake_c _).mono ?_); rintro e w2 ⟨rfl,g⟩; replace G:=G.trans g; replace H2:=H2.quiet g; replace d0:=wkeep g d0; replace d1:=wkeep g d1; replace d2:=wkeep g d2; replace d3:=wkeep g d3; replace d4:=wkeep g d4; replace d5:=wkeep g d5; replace d6:=wkeep g d6; replace d7:=wkeep g d7; replace d8:=wkeep g d8; replace d9:=wkeep g d9; replace d10:=wkeep g d10; replace c0:=wkeep g c0; replace c1:=wkeep g c1; replace c2:=wkeep g c2; replace c3:=wkeep g c3; replace c4:=wkeep g c4; clear g))
          | (go_at_call 24; ((with_reducible refine (zm _ H2).mono ?_); rintro e w3 ⟨p,rfl,hD⟩; clear zm d0 d1 d2 d3 d4 d5 d6 d7 d8 d9 d10 c0 c1 c2 c3 c4)))
         have HH2:=Lib.hid H2.wider
         clear H2
         rcases hD with ⟨rfl,g⟩ | ⟨S,s,rfl,hcs,hsn,K⟩
         · go_wp2
           go_ret
           exact ⟨rfl,HH2.out.trans g⟩
         · have hcs:cp = (s.cap:Int):=hcs
           have HN9:=Lib.hid (show s.n < 99990 by omega)
           clear hsn
           subst hcs
           have gd:=K.good
           obtain ⟨m,hm⟩ : ∃ m,s.L.length = m:=⟨_,rfl⟩
           have mc:m ≤ s.cap:=by rw [← hm]; exact gd.l.len
           have c256:=gd.c2
           have p1:¬ ((s.cap:Int) < (m:Int)):=by omega
           have p2:(m:Int) ≤ (s.cap:Int):=by omega
           have HM:=Lib.hid hm
           have HGD:=Lib.hid gd
           have zn:=fun (W:World) (g:Wider w3 W) => ylen_c (K.quiet g) (by rw [hm])
           have zy:=fun (W:World) (g:Wider w3 W) => ymay_c (K.quiet g) (HX.out.on (K.quiet g).wider) HO.out
           have G3:=Wider.refl w3
           have d0:=blk_cell K.rest.head 0 (v:=.int .i64 xtb) rfl
           have d1:=blk_cell K.rest.head 1 (v:=.string xkey) rfl
           have d2:=blk_cell K.rest.head 2 (v:=.string xoth) rfl
           have d3:=blk_cell K.rest.head 3 (v:=.int .i64 xln) rfl
           have d4:=blk_cell K.rest.head 4 (v:=.int .i64 xpr) rfl
           have d5:=blk_cell K.rest.head 5 (v:=.int .i64 xbk) rfl
           have d6:=blk_cell K.rest.head 6 (v:=.slice xA xn xc) rfl
           have d7:=blk_cell K.rest.head 7 (v:=.int .i64 xidle) rfl
           have d8:=blk_cell K.rest.head 8 (v:=.int .i64 xhard) rfl
           have d9:=blk_cell K.rest.head 9 (v:=.int .u64 xck) rfl
           have d10:=blk_cell K.rest.head 10 (v:=.bool xtl) rfl
           have c0:=blk_cell K.rest.second 0 (v:=.int .i64 id) rfl
           have c1:=blk_cell K.rest.second 1 (v:=.int .u8 kind) rfl
           have c2:=blk_cell K.rest.second 2 (v:=.slice KA kn kc) rfl
           have c3:=blk_cell K.rest.second 3 (v:=.int .i64 (s.cap:Int)) rfl
           have c4:=blk_cell K.rest.second 4 (v:=.int .i64 miss) rfl
           have HK:=Lib.hid K
           obtain ⟨cc,hcc⟩ : ∃ cc,s.cap = cc:=⟨_,rfl⟩
           rw [hcc] at c3 p1 p2 mc c256
           cases hmay:mayT s ⟨xtb,xkey,xoth,xln,xpr,xbk,xargs,xidle,xhard,xck,xtl⟩ with
           | false =>
             rw [hmay] at zy
             have zy:∀ (W:World) (g:Wider w3 W),Calls Tryz.prog 9 #[pS S,.agg #[.int .i64 xtb,.string xkey,.string xoth,.int .i64 xln,.int .i64 xpr,.int .i64 xbk,.slice xA xn xc,.int .i64 xidle,.int .i64 xhard,.int .u64 xck,.bool xtl]] W fun e w' => e = .returned (.int .i64 3) ∧ Wider W w':=zy
             rw [hcc]
             clear gd hm mc c256 hmay K hcc
             go_wp2_with (first
              | (go_at_call 19; ((with_reducible refine (zn _ G3).mono ?_); rintro e w4 ⟨rfl,g⟩; replace G3:=G3.trans g; replace d0:=wkeep g d0; replace d1:=wkeep g d1; replace d2:=wkeep g d2; replace d3:=wkeep g d3; replace d4:=wkeep g d4; replace d5:=wkeep g d5; replace d6:=wkeep g d6; replace d7:=wkeep g d7; replace d8:=wkeep g d8; replace d9:=wkeep g d9; replace d10:=wkeep g d10; replace c0:=wkeep g c0; replace c1:=wkeep g c1; replace c2:=wkeep g c2; replace c3:=wkeep g c3; replace c4:=wkeep g c4; clear zn g))
              | (go_at_call 9; ((with_reducible refine (zy _ G3).mono ?_); rintro e w5 ⟨rfl,g⟩; replace G3:=G3.trans g; replace d0:=wkeep g d0; replace d1:=wkeep g d1; replace d2:=wkeep g d2; replace d3:=wkeep g d3; replace d4:=wkeep g d4; replace d5:=wkeep g d5; replace d6:=wkeep g d6; replace d7:=wkeep g d7; replace d8:=wkeep g d8; replace d9:=wkeep g d9; replace d10:=wkeep g d10; replace c0:=wkeep g c0; replace c1:=wkeep g c1; replace c2:=wkeep g c2; replace c3:=wkeep g c3; replace c4:=wkeep g c4; clear zy g)))
             go_ret
             exact ⟨rfl,HK.out.wider.trans G3⟩
           | true =>
             rw [hmay] at zy
             have zy:∀ (W:World) (g:Wider w3 W),Calls Tryz.prog 9 #[pS S,.agg #[.int .i64 xtb,.string xkey,.string xoth,.int .i64 xln,.int .i64 xpr,.int .i64 xbk,.slice xA xn xc,.int .i64 xidle,.int .i64 xhard,.int .u64 xck,.bool xtl]] W fun e w' => e = .returned (.int .i64 0) ∧ Wider W w':=zy
             rw [hcc]
             have ze:=fun (W:World) (g:Wider w3 W) => yents_c (K.quiet g) hm
             have HY:=Lib.hid hmay
             have HCC:=Lib.hid hcc
             clear gd hm hmay K hcc
             go_upto_region 10 with (first
              | (go_at_call 19; ((with_reducible refine (zn _ G3).mono ?_); rintro e w4 ⟨rfl,g⟩; replace G3:=G3.trans g; replace d0:=wkeep g d0; replace d1:=wkeep g d1; replace d2:=wkeep g d2; replace d3:=wkeep g d3; replace d4:=wkeep g d4; replace d5:=wkeep g d5; replace d6:=wkeep g d6; replace d7:=wkeep g d7; replace d8:=wkeep g d8; replace d9:=wkeep g d9; replace d10:=wkeep g d10; replace c0:=wkeep g c0; replace c1:=wkeep g c1; replace c2:=wkeep g c2; replace c3:=wkeep g c3; replace c4:=wkeep g c4; clear zn g))
              | (go_at_call 9; ((with_reducible refine (zy _ G3).mono ?_); rintro e w5 ⟨rfl,g⟩; replace G3:=G3.trans g; replace d0:=wkeep g d0; replace d1:=wkeep g d1; replace d2:=wkeep g d2; replace d3:=wkeep g d3; replace d4:=wkeep g d4; replace d5:=wkeep g d5; replace d6:=wkeep g d6; replace d7:=wkeep g d7; replace d8:=wkeep g d8; replace d9:=wkeep g d9; replace d10:=wkeep g d10; replace c0:=wkeep g c0; replace c1:=wkeep g c1; replace c2:=wkeep g c2; replace c3:=wkeep g c3; replace c4:=wkeep g c4; clear zy g))
              | (go_at_call 18; ((with_reducible refine (ze _ G3).mono ?_); rintro e w6 ⟨B,c,E,rfl,hE,K⟩; clear ze d0 d1 d2 d3 d4 d5 d6 d7 d8 d9 d10 c0 c1 c2 c3 c4)))
             have HE:=Lib.hid hE
             have hEl:E.length = m:=by rw [← HM.out,← List.length_map (f:=fun h:HeldM => h.x),← hE,List.length_map]
             have HEL:=Lib.hid hEl
             clear hE hEl G3 HK
             go_wp2
             go_loopw [12,13] (fun a b wr => ∃ j:Nat,j ≤ m ∧ a = .bool (decide (hasE (s.L.take j) ⟨xtb,xkey,xoth,xln,xpr,xbk,xargs,xidle,xhard,xck,xtl⟩)) ∧ b = .int .i64 (j:Int) ∧ StoreIs w wr (entsT (.slice B m c) m E ++ [blkT (Bt + 1) (entC ⟨xtb,xkey,xoth,xln,xpr,xbk,xargs,xidle,xhard,xck,xtl⟩ (.slice xA xn xc)) 26,blkT Bt (tabC ⟨id,kind,keys,(s.cap:Int),miss⟩ (.slice KA kn kc)) 36]) S s) (fun _ b _ => m - (intOf b).toNat)
             case atStart => exact ⟨0,Nat.zero_le _,rfl,rfl,K⟩
             case round =>
              clear K
              obtain ⟨j,hj,rfl,rfl,K⟩:=hrel
              have j0:(0:Int) ≤ (j:Int):=by omega
              by_cases d:j < m
              · have j1:(j:Int) < (m:Int):=by omega
                obtain ⟨⟨y,yp,yf⟩,hy⟩ : ∃ y,s.L[j]? = some y:=⟨s.L[j]'(by rw [HM.out]; exact d),List.getElem?_eq_getElem _⟩
                have HT:=Lib.hid (show decide (hasE (s.L.take (j + 1)) ⟨xtb,xkey,xoth,xln,xpr,xbk,xargs,xidle,xhard,xck,xtl⟩) = (decide (hasE (s.L.take j) ⟨xtb,xkey,xoth,xln,xpr,xbk,xargs,xidle,xhard,xck,xtl⟩) || decide (OneE y ⟨xtb,xkey,xoth,xln,xpr,xbk,xargs,xidle,xhard,xck,xtl⟩)) by
                 rw [takeH_next hy,← Bool.decide_or]
                 refine decide_eq_decide.2 ⟨fun ⟨h,hh,ho⟩ => ?_,fun h => ?_⟩
                 · rcases List.mem_append.1 hh with hh | hh
                   · exact .inl ⟨h,hh,ho⟩
                   · obtain rfl:h = _:=by simpa using hh
                     exact .inr ho
                 · rcases h with ⟨h,hh,ho⟩ | ho
                   · exact ⟨h,List.mem_append_left _ hh,ho⟩
                   · exact ⟨_,List.mem_append_right _ (.head _),ho⟩)
                obtain ⟨old,hold⟩ : ∃ b,decide (hasE (s.L.take j) ⟨xtb,xkey,xoth,xln,xpr,xbk,xargs,xidle,xhard,xck,xtl⟩) = b:=⟨_,rfl⟩
                rw [hold] at HT
                rw [hold]
                have HK:=Lib.hid K
                cases old with
                | true =>
                  clear K hy
                  go_upto_region 14 with (fail)
                  refine wp_region_after (by kernel_rfl) (by kernel_rfl) (Wider.refl wr) ?_
                  repeat (go_big_quiet_step (fail))
                  refine wpQuiet_nil ?_
                  rintro _ ⟨z,rfl⟩
                  have K2:=HK.out.quiet z.h
                  go_wp2
                  go_roundw
                  case rel => exact ⟨j + 1,by omega,by rw [HT.out]; rfl,by go_num,K2⟩
                  case measure => simp [intOf]; omega
                | false =>
                  obtain ⟨Bk,eB,ka⟩:=ents_at K.rest (fun t ht => List.mem_append_left _ ht) HEL.out j y (by rw [HE.out,List.getElem?_map,hy]; rfl)
                  obtain ⟨Aa,na,ca,hna,ra,a0,a1,a2,a3,a4,a5,a6,a7,a8,a9,a10⟩:=ka.cells
                  have bx:wr.heap[Bt + 1]? = some (.cells (entC ⟨xtb,xkey,xoth,xln,xpr,xbk,xargs,xidle,xhard,xck,xtl⟩ (.slice xA xn xc)) 26 (0,0)):=K.rest.holds (blkT (Bt + 1) (entC ⟨xtb,xkey,xoth,xln,xpr,xbk,xargs,xidle,xhard,xck,xtl⟩ (.slice xA xn xc)) 26) (List.mem_append_right _ (.head _))
                  obtain ⟨sm1,sm2⟩:=HGD.out.small _ (List.mem_of_getElem? hy)
                  have zo:=fun (z:After wr) => zone_c y ⟨xtb,xkey,xoth,xln,xpr,xbk,xargs,xidle,xhard,xck,xtl⟩ Aa na ca xA xn xc rfl z.w
                  subst eB
                  obtain ⟨ytb,ykey,yoth,yln,ypr,ybk,yargs,yidle,yhard,yck,ytl⟩:=y
                  have d0:=blk_cell bx 0 (v:=.int .i64 xtb) rfl
                  have d1:=blk_cell bx 1 (v:=.string xkey) rfl
                  have d2:=blk_cell bx 2 (v:=.string xoth) rfl
                  have d3:=blk_cell bx 3 (v:=.int .i64 xln) rfl
                  have d4:=blk_cell bx 4 (v:=.int .i64 xpr) rfl
                  have d5:=blk_cell bx 5 (v:=.int .i64 xbk) rfl
                  have d6:=blk_cell bx 6 (v:=.slice xA xn xc) rfl
                  have d7:=blk_cell bx 7 (v:=.int .i64 xidle) rfl
                  have d8:=blk_cell bx 8 (v:=.int .i64 xhard) rfl
                  have d9:=blk_cell bx 9 (v:=.int .u64 xck) rfl
                  have d10:=blk_cell bx 10 (v:=.bool xtl) rfl
                  obtain ⟨on,hon⟩ : ∃ b,decide (OneE ⟨ytb,ykey,yoth,yln,ypr,ybk,yargs,yidle,yhard,yck,ytl⟩ ⟨xtb,xkey,xoth,xln,xpr,xbk,xargs,xidle,xhard,xck,xtl⟩) = b:=⟨_,rfl⟩
                  rw [hon] at zo HT
                  have f0:=fun (z:After wr) => wkeep z.h a0
                  have f1:=fun (z:After wr) => wkeep z.h a1
                  have f2:=fun (z:After wr) => wkeep z.h a2
                  have f3:=fun (z:After wr) => wkeep z.h a3
                  have f4:=fun (z:After wr) => wkeep z.h a4
                  have f5:=fun (z:After wr) => wkeep z.h a5
                  have f6:=fun (z:After wr) => wkeep z.h a6
                  have f7:=fun (z:After wr) => wkeep z.h a7
                  have f8:=fun (z:After wr) => wkeep z.h a8
                  have f9:=fun (z:After wr) => wkeep z.h a9
                  have f10:=fun (z:After wr) => wkeep z.h a10
                  have x0:=fun (z:After wr) => wkeep z.h d0
                  have x1:=fun (z:After wr) => wkeep z.h d1
                  have x2:=fun (z:After wr) => wkeep z.h d2
                  have x3:=fun (z:After wr) => wkeep z.h d3
                  have x4:=fun (z:After wr) => wkeep z.h d4
                  have x5:=fun (z:After wr) => wkeep z.h d5
                  have x6:=fun (z:After wr) => wkeep z.h d6
                  have x7:=fun (z:After wr) => wkeep z.h d7
                  have x8:=fun (z:After wr) => wkeep z.h d8
                  have x9:=fun (z:After wr) => wkeep z.h d9
                  have x10:=fun (z:After wr) => wkeep z.h d10
                  clear K hy a0 a1 a2 a3 a4 a5 a6 a7 a8 a9 a10 bx ra ka sm1 sm2 d0 d1 d2 d3 d4 d5 d6 d7 d8 d9 d10
                  go_upto_region 14 with (fail)
                  refine wp_region_after (by kernel_rfl) (by kernel_rfl) (Wider.refl wr) ?_
                  repeat (go_big_quiet_step (first | (go_at_call 26; with_reducible exact quiet_after (zo _))))
                  refine wpQuiet_nil ?_
                  rintro _ ⟨z,rfl⟩
                  have K2:=HK.out.quiet z.h
                  clear zo f0 x0 f1 x1 f2 x2 f3 x3 f4 x4 f5 x5 f6 x6 f7 x7 f8 x8 f9 x9 f10 x10
                  go_wp2
                  go_roundw
                  case rel => exact ⟨j + 1,by omega,by rw [HT.out]; rfl,by go_num,K2⟩
                  case measure => simp [intOf]; omega
              · obtain rfl:j = m:=by omega
                have j1:¬ (j:Int) < (j:Int):=by omega
                rw [List.take_of_length_le (by rw [HM.out]; exact Nat.le_refl _)]
                have bx:wr.heap[Bt + 1]? = some (.cells (entC ⟨xtb,xkey,xoth,xln,xpr,xbk,xargs,xidle,xhard,xck,xtl⟩ (.slice xA xn xc)) 26 (0,0)):=K.rest.holds (blkT (Bt + 1) (entC ⟨xtb,xkey,xoth,xln,xpr,xbk,xargs,xidle,xhard,xck,xtl⟩ (.slice xA xn xc)) 26) (List.mem_append_right _ (.head _))
                have bt:wr.heap[Bt]? = some (.cells (tabC ⟨id,kind,keys,(s.cap:Int),miss⟩ (.slice KA kn kc)) 36 (0,0)):=K.rest.holds (blkT Bt (tabC ⟨id,kind,keys,(s.cap:Int),miss⟩ (.slice KA kn kc)) 36) (List.mem_append_right _ (.tail _ (.head _)))
                have d0:=blk_cell bx 0 (v:=.int .i64 xtb) rfl
                have d1:=blk_cell bx 1 (v:=.string xkey) rfl
                have d2:=blk_cell bx 2 (v:=.string xoth) rfl
                have d3:=blk_cell bx 3 (v:=.int .i64 xln) rfl
                have d4:=blk_cell bx 4 (v:=.int .i64 xpr) rfl
                have d5:=blk_cell bx 5 (v:=.int .i64 xbk) rfl
                have d6:=blk_cell bx 6 (v:=.slice xA xn xc) rfl
                have d7:=blk_cell bx 7 (v:=.int .i64 xidle) rfl
                have d8:=blk_cell bx 8 (v:=.int .i64 xhard) rfl
                have d9:=blk_cell bx 9 (v:=.int .u64 xck) rfl
                have d10:=blk_cell bx 10 (v:=.bool xtl) rfl
                have zp:=yput_c K HN9.out (fun W k => HX.out.on k.wider) HO.out 0
                have v0:((j:Int) == (j:Int)) = true:=beq_self_eq_true _
                by_cases hs:hasE s.L ⟨xtb,xkey,xoth,xln,xpr,xbk,xargs,xidle,xhard,xck,xtl⟩
                · rw [decide_eq_true hs]
                  have ec:codeP s ⟨xtb,xkey,xoth,xln,xpr,xbk,xargs,xidle,xhard,xck,xtl⟩ = 0:=by unfold codeP; rw [if_pos HY.out,if_pos (.inl hs)]
                  have es:putS s ⟨xtb,xkey,xoth,xln,xpr,xbk,xargs,xidle,xhard,xck,xtl⟩ 0 = { s with L:=putE s.L ⟨xtb,xkey,xoth,xln,xpr,xbk,xargs,xidle,xhard,xck,xtl⟩ 0,n:=s.n + 1 } :=by unfold putS; rw [if_pos ⟨HY.out,.inl hs⟩]
                  rw [ec,es] at zp
                  have ln:(putE s.L ⟨xtb,xkey,xoth,xln,xpr,xbk,xargs,xidle,xhard,xck,xtl⟩ 0).length = j:=by
                   unfold putE
                   rw [List.length_append]
                   have:=but_has_length HGD.out.l hs
                   have:=HM.out
                   show (butE s.L ⟨xtb,xkey,xoth,xln,xpr,xbk,xargs,xidle,xhard,xck,xtl⟩).length + 1 = j
                   omega
                  clear K hs ec es bx bt
                  go_wp2_with (first
                   | (go_at_call 10; ((with_reducible refine zp.mono ?_); rintro e w7 ⟨rfl,K7⟩; clear zp d0 d1 d2 d3 d4 d5 d6 d7 d8 d9 d10; have zl:=ylen_c K7 (n:=(j:Int)) (congrArg (Nat.cast (R:=Int)) ln)))
                   | (go_at_call 19; ((with_reducible refine zl.mono ?_); rintro e w8 ⟨rfl,g⟩; have K8:=K7.quiet g; clear zl g)))
                  go_ret
                  exact ⟨rfl,K8.wider⟩
                · rw [decide_eq_false hs]
                  have c3:=blk_cell bt 3 (v:=.int .i64 (s.cap:Int)) rfl
                  obtain ⟨cc2,hcc2⟩ : ∃ cc,s.cap = cc:=⟨_,rfl⟩
                  rw [hcc2] at c3
                  by_cases full:j = cc2
                  · have ec:codeP s ⟨xtb,xkey,xoth,xln,xpr,xbk,xargs,xidle,xhard,xck,xtl⟩ = 12:=by
                     unfold codeP
                     rw [if_pos HY.out,if_neg]
                     rintro (h | h)
                     · exact hs h
                     · rw [HM.out] at h; omega
                    have es:putS s ⟨xtb,xkey,xoth,xln,xpr,xbk,xargs,xidle,xhard,xck,xtl⟩ 0 = s:=by
                     unfold putS
                     rw [if_neg]
                     rintro ⟨_,h | h⟩
                     · exact hs h
                     · rw [HM.out] at h; omega
                    rw [ec,es] at zp
                    have z5:((j:Int) == (cc2:Int)) = true:=by rw [full]; exact beq_self_eq_true _
                    clear K hs ec es bx full
                    go_upto_region 18 with (first
                     | (go_at_call 10; ((with_reducible refine zp.mono ?_); rintro e w7 ⟨rfl,K7⟩; clear zp d0 d1 d2 d3 d4 d5 d6 d7 d8 d9 d10 c3)))
                    have bt:w7.heap[Bt]? = some (.cells (tabC ⟨id,kind,keys,(s.cap:Int),miss⟩ (.slice KA kn kc)) 36 (0,0)):=K7.rest.holds (blkT Bt (tabC ⟨id,kind,keys,(s.cap:Int),miss⟩ (.slice KA kn kc)) 36) (List.mem_append_right _ (.tail _ (.head _)))
                    have c3:=blk_cell bt 3 (v:=.int .i64 (s.cap:Int)) rfl
                    rw [hcc2] at c3
                    have ze:=yents_c K7 HM.out
                    have hj5:j < 100000:=by have:=HGD.out.c2; omega
                    go_wp2_with (first
                     | (go_at_call 18; ((with_reducible refine ze.mono ?_); rintro e w8 ⟨B2,cB2,E2,rfl,hE2,K8⟩; clear ze c3 bt; have zt:=yentries_c (Bb:=B) (cb:=c) K8.rest hE2 (by rw [List.length_map]; exact HM.out) hj5 (fun W hW => by have q:=ents_at hW (fun t ht => List.mem_append_left _ ht) HEL.out; rw [HE.out] at q; exact q) (fun x hx => by
                      obtain ⟨h,hh,rfl⟩:=List.mem_map.1 hx
                      have:=HGD.out.may h hh
                      unfold mayT at this
                      have:=(of_decide_eq_true (Bool.and_eq_true_iff.1 this).1).2.2.2.1
                      omega)))
                     | (go_at_call 27; ((with_reducible refine zt.mono ?_); rintro e w9 ⟨rfl,H9⟩; clear zt)))
                    go_ret
                    exact ⟨rfl,H9.wider⟩
                  · have lt:s.L.length < s.cap:=by have:=HGD.out.l.len; have:=HM.out; omega
                    have ec:codeP s ⟨xtb,xkey,xoth,xln,xpr,xbk,xargs,xidle,xhard,xck,xtl⟩ = 0:=by unfold codeP; rw [if_pos HY.out,if_pos (.inr lt)]
                    have es:putS s ⟨xtb,xkey,xoth,xln,xpr,xbk,xargs,xidle,xhard,xck,xtl⟩ 0 = { s with L:=putE s.L ⟨xtb,xkey,xoth,xln,xpr,xbk,xargs,xidle,xhard,xck,xtl⟩ 0,n:=s.n + 1 } :=by unfold putS; rw [if_pos ⟨HY.out,.inr lt⟩]
                    rw [ec,es] at zp
                    have ln:(putE s.L ⟨xtb,xkey,xoth,xln,xpr,xbk,xargs,xidle,xhard,xck,xtl⟩ 0).length = j + 1:=by
                     unfold putE
                     rw [List.length_append,butE_none hs,HM.out]; rfl
                    have z5:((j:Int) == (cc2:Int)) = false:=by rw [beq_eq_false_iff_ne]; omega
                    have hj5:j < 100000:=by have:=HGD.out.c2; omega
                    have z6:IntKind.i64.wrap ((j:Int) + 1) = ((j + 1:Nat):Int):=by simp [IntKind.wrap,IntKind.bits,IntKind.signed]; omega
                    have z7:(((j + 1:Nat):Int) == ((j + 1:Nat):Int)) = true:=beq_self_eq_true _
                    clear K hs ec es bx bt lt
                    go_upto_region 18 with (first
                     | (go_at_call 10; ((with_reducible refine zp.mono ?_); rintro e w7 ⟨rfl,K7⟩; clear zp d0 d1 d2 d3 d4 d5 d6 d7 d8 d9 d10 c3)))
                    have bt:w7.heap[Bt]? = some (.cells (tabC ⟨id,kind,keys,(s.cap:Int),miss⟩ (.slice KA kn kc)) 36 (0,0)):=K7.rest.holds (blkT Bt (tabC ⟨id,kind,keys,(s.cap:Int),miss⟩ (.slice KA kn kc)) 36) (List.mem_append_right _ (.tail _ (.head _)))
                    have c3:=blk_cell bt 3 (v:=.int .i64 (s.cap:Int)) rfl
                    rw [hcc2] at c3
                    have zl:=ylen_c K7 (n:=((j + 1:Nat):Int)) (congrArg (Nat.cast (R:=Int)) ln)
                    go_wp2_with (first
                     | (go_at_call 19; ((with_reducible refine zl.mono ?_); rintro e w8 ⟨rfl,g⟩; have K8:=K7.quiet g; clear zl g c3 bt)))
                    go_ret
                    exact ⟨rfl,K8.wider⟩
set_option maxRecDepth 100000 in
theorem tableRoom_lifted (os:Os) (started:os.Started) (H:Type) (enc:TypeId × Value → H) :
 ReturnsInHanded {} Tryz.checked os 6 .any (Rows.tableRoomSpec.pre6 enc Tryz.prog Tryz.f6 Rows.tableRoomRow.domain false) (Rows.tableRoomSpec.post enc Tryz.prog Tryz.f6 false true false false) := by
 refine returnsInHanded_of_change_sized (C:=Tryz.checked) own started (by kernel_rfl) Tryz.func6
  (ChangeSpec.witness6 (enc:=enc) (C:=Tryz.checked) false ⟨#[],#[.agg #[.int .i64 0,.int .u8 0,.slice none 0 0,.int .i64 0,.int .i64 0],.slice none 0 0,.slice none 0 0,.agg #[.int .i64 0,.string ⟨#[]⟩,.string ⟨#[]⟩,.int .i64 0,.int .i64 0,.int .i64 0,.slice none 0 0,.int .i64 0,.int .i64 0,.int .u64 0,.bool false]],[]⟩ 8 (by kernel_rfl) (by kernel_rfl) (by kernel_rfl) (by kernel_rfl)) ?_
 intro W base args ds gs before hval0 hW hcnd hsz _
 have hval:∀ (j:Nat) t v,Tryz.f6.params[j]? = some t → args[j]? = some v → Value.okWide Tryz.prog W .any base t v:=hval0
 have hW':=hW
 obtain ⟨p,q,hA0,hV,rfl,hfz,hnd⟩:=hW
 have hA:DataW.TrodAll enc Tryz.prog W 0 (fun _ => true) true Tryz.f6.params.toList args.toList ds p:=hA0
 rw [Tryz.params6] at hA hval hsz
 obtain ⟨v0,vs0,d0,ds0,p0,q0,hargs,rfl,rfl,h0,r0⟩:=trodAll_cons hA
 obtain ⟨v1,vs1,d1,ds1,p1,q1,rfl,rfl,rfl,h1,r1⟩:=trodAll_cons r0
 obtain ⟨v2,vs2,d2,ds2,p2,q2,rfl,rfl,rfl,h2,r2⟩:=trodAll_cons r1
 obtain ⟨v3,vs3,d3,ds3,p3,q3,rfl,rfl,rfl,h3,r3⟩:=trodAll_cons r2
 obtain ⟨rfl,rfl,rfl⟩:=trodAll_nil r3
 obtain rfl:args = #[v0,v1,v2,v3]:=by cases args; simp_all
 obtain ⟨rfl,rfl⟩:=trodVars_none hV
 have h0k:=h0
 obtain ⟨t0,KA0,kn0,kc0,rfl,hk0,hkl0,hc0⟩:=open_tab2 (hval 0 36 v0 rfl rfl) h0
 have h1k:=h1
 obtain ⟨A1,len1,cap1,rfl⟩:=okWide_slice Tryz.underlying34 (hval 1 34 v1 rfl rfl)
 obtain ⟨fuel1,hf1⟩:=h1
 obtain ⟨zs1,hw1,hwl1⟩:=open_nums hf1
 have h2k:=h2
 obtain ⟨A2,len2,cap2,rfl⟩:=okWide_slice Tryz.underlying54 (hval 2 54 v2 rfl rfl)
 obtain ⟨fuel2,hf2⟩:=h2
 obtain ⟨l2,hl2,ha2,hm2,hz2⟩:=open_actsT hf2
 have h3k:=h3
 obtain ⟨x3,xA3,xn3,xc3,rfl,hx3,ho3,ha3,hb3,hc3⟩:=open_ent_few (hval 3 26 v3 rfl rfl) h3 hsz 3 rfl rfl
 clear hA0 hval0
 simp only [List.append_nil] at hW'
 refine (tableRoom_walk W t0 KA0 kn0 kc0 hk0 hkl0 hc0 A1 len1 cap1 zs1 hw1 hwl1 A2 len2 cap2 l2 hl2 ha2 hm2 hz2 x3 xA3 xn3 xc3 hx3 ho3 ha3 hb3 hc3).mono fun e W' ⟨he,hg⟩ => ?_
 subst he
 have hlt:∀ x ∈ p0 ++ (p1 ++ (p2 ++ (p3))),x.block < W.heap.size:=fun x hx => by simpa using hW'.lt x hx
 exact ⟨_,rfl,post_of_wider (pv:=[]) hW' (fun _ _ _ => (trodAll_cons_mk (shut_bool Tryz.underlying4 _) trodAll_mk0)) (fun sp hsp => (trodAll_cons_mk (WideElems.Trod_stays laid3 (by kernel_rfl) (of_decide_eq_true (by kernel_rfl)) h0k (fun x hx => wsame hg (hlt x (by simp [hx]))) (fun x hx => hsp x (by simp [hx]))) (trodAll_cons_mk (WideElems.Trod_stays laid3 (by kernel_rfl) (of_decide_eq_true (by kernel_rfl)) h1k (fun x hx => wsame hg (hlt x (by simp [hx]))) (fun x hx => hsp x (by simp [hx]))) (trodAll_cons_mk (WideElems.Trod_stays laid3 (by kernel_rfl) (of_decide_eq_true (by kernel_rfl)) h2k (fun x hx => wsame hg (hlt x (by simp [hx]))) (fun x hx => hsp x (by simp [hx]))) (trodAll_cons_mk (WideElems.Trod_stays laid3 (by kernel_rfl) (of_decide_eq_true (by kernel_rfl)) h3k (fun x hx => wsame hg (hlt x (by simp [hx]))) (fun x hx => hsp x (by simp [hx]))) trodAll_mk0))))) (fun _ _ => rfl) (by simp)
  hg (ok_one (by kernel_rfl) rfl (okWide_bool_mk Tryz.underlying4 _))⟩
theorem tableRoom_holds : Rows.TableRoomSaid :=
 OpenClaim.holds_of_wide 6 Tryz.f6 rfl rfl rfl rfl rfl rfl rfl ⟨rfl,rfl,rfl,rfl,rfl⟩ rfl rfl rfl rfl rfl (by kernel_rfl) Tryz.func6 (by kernel_rfl)
  (of_decide_eq_true (by kernel_rfl)) (by unfold Func.isWrapper; first | (rw [if_pos (by decide +kernel)]; kernel_rfl) | (rw [if_neg (by decide +kernel)]; exact ⟨rfl,rfl⟩))
  (fun os started H enc _ => tableRoom_lifted os started H enc)
#print axioms tableRoom_holds
end Go.Proofs.YtbnpelciceblfaaGreat
