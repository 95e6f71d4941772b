/- ZCodeD ZCodeE -/
import Derived.Test.YtbnpelciceblfaaGreatQ25
namespace Go.Proofs.YtbnpelciceblfaaGreat
set_option linter.unusedVariables false
open Go.ChangeShapes Go.WideShapes Go.ChangeAt Go.RowKit Go.Joins
set_option maxHeartbeats 64000000
def FoundS (k:Int) (ws:List Nat) (E:List HeldP) (key:ByteArray) (r:Int):Prop :=
 (key.size ≠ ws.sum ∧ r = -1) ∨ (key.size = ws.sum ∧ ∃ v b,FindK k ws (E.map HeldP.kp) key v b ∧ ((b = false ∧ r = -1) ∨ (b = true ∧ ∃ i h,E[i]? = some h ∧ (h.pl:Int) = v ∧ r = (i:Nat))))
theorem place_at {E:List HeldP} (asc:E.Pairwise fun a b => a.pl < b.pl) {i:Nat} {h:HeldP} (hi:E[i]? = some h):∀ (j:Nat) (p:HeldP),E[j]? = some p → ((p.pl:Int) < (h.pl:Int) ↔ j < i) ∧ (j = i → (p.pl:Int) = (h.pl:Int)):=by
 intro j p hj
 obtain ⟨a,rfl⟩:=List.getElem?_eq_some_iff.1 hi
 obtain ⟨b,rfl⟩:=List.getElem?_eq_some_iff.1 hj
 have k:=List.pairwise_iff_getElem.1 asc
 refine ⟨⟨fun l => ?_,fun l => by have:=k j i b a l; omega⟩,fun e => by subst e; rfl⟩
 rcases Nat.lt_trichotomy j i with c | c | c
 · exact c
 · subst c; omega
 · have:=k i j a b c; omega
set_option maxRecDepth 20000 in
theorem zfindS_c {V w:World} {R Xs:List Thing} {S:Nat} {d:StoD} {N:Nat} (H:Own V w (d.things S ++ R)) (s:Sliced d.E) (hl:d.E.length < 1000000) (heng:EngA d.t.kind d.ws d.ev d.Es Xs (d.E.map HeldP.kp) N) (hN:N < 99990) (hf:EngF d.t.kind d.ws (d.E.map HeldP.kp)) (asc:d.E.Pairwise fun a b => a.pl < b.pl) (key:ByteArray) (hks:key.size ≤ 9223372036854775807) :
 Calls Tryz.prog 40 #[pS S,.string key] w fun e w' => ∃ r Es2,e = .returned (.int .i64 r) ∧ Own V w' (({ d with Es:=Es2 } : StoD).things S ++ R) ∧ EngA d.t.kind d.ws d.ev Es2 Xs (d.E.map HeldP.kp) N ∧ FoundS d.t.kind d.ws d.E key r:=by
 have c5:=blk_cell H.head 5 (v:=.int .i64 (d.ws.sum:Int)) rfl
 have c6:=blk_cell H.head 6 (v:=d.ev) rfl
 have c7:=blk_cell H.head 7 (v:=d.hv) rfl
 obtain ⟨T,ev0,hev0⟩:=engA_some heng
 have w32:=hf.w32
 have HX:Hid (EngA d.t.kind d.ws d.ev d.Es Xs (d.E.map HeldP.kp) N ∧ Sliced d.E ∧ d.E.length < 1000000 ∧ d.E.Pairwise fun a b => a.pl < b.pl):=Lib.hid ⟨heng,s,hl,asc⟩
 show Calls Tryz.prog 40 #[.pointer (some ⟨S,0,none⟩),.string key] w _
 by_cases hk:key.size = d.ws.sum
 · have zk:((key.size:Int) != (d.ws.sum:Int)) = false:=by rw [hk]; simp
   have hfind:=engA_find heng hN hf hk
   have HK:=Lib.hid hk
   obtain ⟨su,hsu⟩ : ∃ su:Int,(d.ws.sum:Int) = su:=⟨_,rfl⟩
   rw [hsu] at c5 zk
   clear heng s hf asc hk hsu hl w32 hks hev0
   rcases hfind with ⟨p,hev,hfind⟩ | ⟨Z,hev,hfind⟩ | ⟨Z,hev,hfind⟩ | ⟨Z,D,nw,cw,hev,hfind⟩
   · have ze:=fun {R2:List Thing} (W:World) (HW:Own V W (d.Es ++ R2)) => hfind HW
     clear hfind
     rw [hev] at c6
     go_enter Tryz.func40,Tryz.ntmps40
     have K0:=sto_front H
     clear H c7
     go_upto_region 4 with (first
      | (go_at_call 79; ((with_reducible refine (ze _ K0).mono ?_); rintro e w1 ⟨v,b,rfl,hf,Es2,K1,h2⟩; have K2:=sto_back K1; have HF:=Lib.hid (And.intro hf h2); clear ze K0 K1 hf h2)))
     cases b with
     | false =>
       go_wp2
       go_ret
       exact ⟨-1,Es2,rfl,K2,HF.out.2,.inr ⟨HK.out,v,false,HF.out.1,.inl ⟨rfl,rfl⟩⟩⟩
     | true =>
       obtain ⟨m,hm,ev⟩:=HF.out.1.mem rfl
       obtain ⟨h,hh,em⟩:=List.mem_map.1 hm
       obtain ⟨i,hi⟩:=List.getElem?_of_mem hh
       have ev2:(h.pl:Int) = v:=by rw [ev,← em]; rfl
       obtain ⟨A1,c1,ehv,hs⟩:=sto_row K2 HX.out.2.1
       have ehv:d.hv = .slice A1 d.E.length c1:=ehv
       have hs:HeldsAt w1 A1 d.E:=hs
       have c7:=blk_cell (show w1.heap[S]? = some (.cells (stoC ({ d with Es:=Es2 } : StoD)) 72 (0,0)) from K2.head) 7 (v:=d.hv) rfl
       have zs:=zsearch_c (c:=c1) hs rfl HX.out.2.2.1 v (k:=i) ((List.getElem?_eq_some_iff.1 hi).1) (by rw [← ev2]; exact place_at HX.out.2.2.2 hi)
       rw [ehv] at c7
       obtain ⟨nE,hnE⟩ : ∃ n,d.E.length = n:=⟨_,rfl⟩
       rw [hnE] at zs c7
       have HI:=Lib.hid (And.intro hi ev2)
       clear hm hh em hi ev ev2 ehv hs hnE
       go_wp2_with (first
        | (go_at_call 56; ((with_reducible refine zs.mono ?_); rintro e w2 ⟨rfl,g⟩; replace K2:=K2.quiet g; clear zs g c7)))
       go_ret
       exact ⟨(i:Int),Es2,rfl,K2,HF.out.2,.inr ⟨HK.out,v,true,HF.out.1,.inr ⟨rfl,i,h,HI.out.1,HI.out.2,rfl⟩⟩⟩
   · have ze:=fun {R2:List Thing} (W:World) (HW:Own V W (d.Es ++ R2)) => hfind HW
     clear hfind
     rw [hev] at c6
     go_enter Tryz.func40,Tryz.ntmps40
     have K0:=sto_front H
     clear H c7
     go_upto_region 4 with (first
      | (go_at_call 101; ((with_reducible refine (ze _ K0).mono ?_); rintro e w1 ⟨v,b,rfl,hf,Es2,K1,h2⟩; have K2:=sto_back K1; have HF:=Lib.hid (And.intro hf h2); clear ze K0 K1 hf h2)))
     cases b with
     | false =>
       go_wp2
       go_ret
       exact ⟨-1,Es2,rfl,K2,HF.out.2,.inr ⟨HK.out,v,false,HF.out.1,.inl ⟨rfl,rfl⟩⟩⟩
     | true =>
       obtain ⟨m,hm,ev⟩:=HF.out.1.mem rfl
       obtain ⟨h,hh,em⟩:=List.mem_map.1 hm
       obtain ⟨i,hi⟩:=List.getElem?_of_mem hh
       have ev2:(h.pl:Int) = v:=by rw [ev,← em]; rfl
       obtain ⟨A1,c1,ehv,hs⟩:=sto_row K2 HX.out.2.1
       have ehv:d.hv = .slice A1 d.E.length c1:=ehv
       have hs:HeldsAt w1 A1 d.E:=hs
       have c7:=blk_cell (show w1.heap[S]? = some (.cells (stoC ({ d with Es:=Es2 } : StoD)) 72 (0,0)) from K2.head) 7 (v:=d.hv) rfl
       have zs:=zsearch_c (c:=c1) hs rfl HX.out.2.2.1 v (k:=i) ((List.getElem?_eq_some_iff.1 hi).1) (by rw [← ev2]; exact place_at HX.out.2.2.2 hi)
       rw [ehv] at c7
       obtain ⟨nE,hnE⟩ : ∃ n,d.E.length = n:=⟨_,rfl⟩
       rw [hnE] at zs c7
       have HI:=Lib.hid (And.intro hi ev2)
       clear hm hh em hi ev ev2 ehv hs hnE
       go_wp2_with (first
        | (go_at_call 56; ((with_reducible refine zs.mono ?_); rintro e w2 ⟨rfl,g⟩; replace K2:=K2.quiet g; clear zs g c7)))
       go_ret
       exact ⟨(i:Int),Es2,rfl,K2,HF.out.2,.inr ⟨HK.out,v,true,HF.out.1,.inr ⟨rfl,i,h,HI.out.1,HI.out.2,rfl⟩⟩⟩
   · have ze:=fun {R2:List Thing} (W:World) (HW:Own V W (d.Es ++ R2)) => hfind HW
     clear hfind
     rw [hev] at c6
     go_enter Tryz.func40,Tryz.ntmps40
     have K0:=sto_front H
     clear H c7
     go_upto_region 4 with (first
      | (go_at_call 128; ((with_reducible refine (ze _ K0).mono ?_); rintro e w1 ⟨v,b,rfl,hf,Es2,K1,h2⟩; have K2:=sto_back K1; have HF:=Lib.hid (And.intro hf h2); clear ze K0 K1 hf h2)))
     cases b with
     | false =>
       go_wp2
       go_ret
       exact ⟨-1,Es2,rfl,K2,HF.out.2,.inr ⟨HK.out,v,false,HF.out.1,.inl ⟨rfl,rfl⟩⟩⟩
     | true =>
       obtain ⟨m,hm,ev⟩:=HF.out.1.mem rfl
       obtain ⟨h,hh,em⟩:=List.mem_map.1 hm
       obtain ⟨i,hi⟩:=List.getElem?_of_mem hh
       have ev2:(h.pl:Int) = v:=by rw [ev,← em]; rfl
       obtain ⟨A1,c1,ehv,hs⟩:=sto_row K2 HX.out.2.1
       have ehv:d.hv = .slice A1 d.E.length c1:=ehv
       have hs:HeldsAt w1 A1 d.E:=hs
       have c7:=blk_cell (show w1.heap[S]? = some (.cells (stoC ({ d with Es:=Es2 } : StoD)) 72 (0,0)) from K2.head) 7 (v:=d.hv) rfl
       have zs:=zsearch_c (c:=c1) hs rfl HX.out.2.2.1 v (k:=i) ((List.getElem?_eq_some_iff.1 hi).1) (by rw [← ev2]; exact place_at HX.out.2.2.2 hi)
       rw [ehv] at c7
       obtain ⟨nE,hnE⟩ : ∃ n,d.E.length = n:=⟨_,rfl⟩
       rw [hnE] at zs c7
       have HI:=Lib.hid (And.intro hi ev2)
       clear hm hh em hi ev ev2 ehv hs hnE
       go_wp2_with (first
        | (go_at_call 56; ((with_reducible refine zs.mono ?_); rintro e w2 ⟨rfl,g⟩; replace K2:=K2.quiet g; clear zs g c7)))
       go_ret
       exact ⟨(i:Int),Es2,rfl,K2,HF.out.2,.inr ⟨HK.out,v,true,HF.out.1,.inr ⟨rfl,i,h,HI.out.1,HI.out.2,rfl⟩⟩⟩
   · have ze:=fun {R2:List Thing} (W:World) (HW:Own V W (d.Es ++ R2)) => hfind HW
     clear hfind
     rw [hev] at c6
     go_enter Tryz.func40,Tryz.ntmps40
     have K0:=sto_front H
     clear H c7
     go_upto_region 4 with (first
      | (go_at_call 182; ((with_reducible refine (ze _ K0).mono ?_); rintro e w1 ⟨v,b,rfl,hf,Es2,K1,h2⟩; have K2:=sto_back K1; have HF:=Lib.hid (And.intro hf h2); clear ze K0 K1 hf h2)))
     cases b with
     | false =>
       go_wp2
       go_ret
       exact ⟨-1,Es2,rfl,K2,HF.out.2,.inr ⟨HK.out,v,false,HF.out.1,.inl ⟨rfl,rfl⟩⟩⟩
     | true =>
       obtain ⟨m,hm,ev⟩:=HF.out.1.mem rfl
       obtain ⟨h,hh,em⟩:=List.mem_map.1 hm
       obtain ⟨i,hi⟩:=List.getElem?_of_mem hh
       have ev2:(h.pl:Int) = v:=by rw [ev,← em]; rfl
       obtain ⟨A1,c1,ehv,hs⟩:=sto_row K2 HX.out.2.1
       have ehv:d.hv = .slice A1 d.E.length c1:=ehv
       have hs:HeldsAt w1 A1 d.E:=hs
       have c7:=blk_cell (show w1.heap[S]? = some (.cells (stoC ({ d with Es:=Es2 } : StoD)) 72 (0,0)) from K2.head) 7 (v:=d.hv) rfl
       have zs:=zsearch_c (c:=c1) hs rfl HX.out.2.2.1 v (k:=i) ((List.getElem?_eq_some_iff.1 hi).1) (by rw [← ev2]; exact place_at HX.out.2.2.2 hi)
       rw [ehv] at c7
       obtain ⟨nE,hnE⟩ : ∃ n,d.E.length = n:=⟨_,rfl⟩
       rw [hnE] at zs c7
       have HI:=Lib.hid (And.intro hi ev2)
       clear hm hh em hi ev ev2 ehv hs hnE
       go_wp2_with (first
        | (go_at_call 56; ((with_reducible refine zs.mono ?_); rintro e w2 ⟨rfl,g⟩; replace K2:=K2.quiet g; clear zs g c7)))
       go_ret
       exact ⟨(i:Int),Es2,rfl,K2,HF.out.2,.inr ⟨HK.out,v,true,HF.out.1,.inr ⟨rfl,i,h,HI.out.1,HI.out.2,rfl⟩⟩⟩
 · have zk:((key.size:Int) != (d.ws.sum:Int)) = true:=by rw [bne_iff_ne]; omega
   have HK:=Lib.hid hk
   rw [hev0] at c6
   have G:=Wider.refl w
   obtain ⟨su,hsu⟩ : ∃ su:Int,(d.ws.sum:Int) = su:=⟨_,rfl⟩
   rw [hsu] at c5 zk
   clear heng s hf asc hk hl hsu w32 hev0
   go_enter Tryz.func40,Tryz.ntmps40
   have K0:=H
   clear H c7
   go_wp2
   go_ret
   exact ⟨-1,d.Es,rfl,K0,HX.out.1,.inl ⟨HK.out,rfl⟩⟩
set_option maxRecDepth 20000 in
theorem zvalid_a {w:World} {S:Nat} {id:Int} {su:Nat} {T0:TypeId} {ev0 ev:Value} {Xs:List Thing} (c0:w.cell? ⟨S,0,none⟩ = some (.int .i64 id)) (c5:w.cell? ⟨S,5,none⟩ = some (.int .i64 (su:Int))) (c6:w.cell? ⟨S,6,none⟩ = some ev) (he:ev = .iface T0 ev0)
 {k:Int} {ws:List Nat} {Es:List Thing} {M:List KP} {N:Nat} (heng:EngA k ws ev Es Xs M N) (w4:ws.length ≤ 4) (w32:ws.sum ≤ 32) (hsu:ws.sum = su) (hX:∀ W,Wider w W → ∀ t ∈ Xs,t.2 W) (x:EntV) {A:Option Addr} {n c:Nat} (hargs:x.args.length = n) (ho:x.key.size ≤ 9223372036854775807 ∧ x.oth.size ≤ 9223372036854775807) {r:Bool}
 (hr:decide ((x.tb = id ∧ (1 ≤ x.bk ∧ x.bk ≤ 65534) ∧ n ≤ 4 ∧ (0 ≤ x.idle ∧ x.idle ≤ 1099511627776) ∧ 0 ≤ x.hard ∧ x.hard ≤ 1099511627776) ∧ x.key.size = su ∧ FitK k ws x.key x.oth x.ln x.pr) = r) :
 Calls Tryz.prog 30 #[pS S,entV x (.slice A n c)] w fun e w' => e = .returned (.bool r) ∧ Wider w w':=by
 have hfits:=fun (hk:x.key.size = su) {r:Bool} => engA_fits heng w4 w32 (x:=x) (hk.trans hsu.symm) ho.2 (r:=r)
 obtain ⟨tb,key,oth,ln,pr,bk,args,idle,hard,ck,tl⟩:=x
 change decide ((tb = id ∧ (1 ≤ bk ∧ bk ≤ 65534) ∧ n ≤ 4 ∧ (0 ≤ idle ∧ idle ≤ 1099511627776) ∧ 0 ≤ hard ∧ hard ≤ 1099511627776) ∧ key.size = su ∧ FitK k ws key oth ln pr) = r at hr
 show Calls Tryz.prog 30 #[.pointer (some ⟨S,0,none⟩),.agg #[.int .i64 tb,.string key,.string oth,.int .i64 ln,.int .i64 pr,.int .i64 bk,.slice A n c,.int .i64 idle,.int .i64 hard,.int .u64 ck,.bool tl]] w _
 have E0:=ent11_box w tb key oth ln pr bk A n c idle hard ck tl
 have G:=(Wider.refl w).alloc (.cells #[.int .i64 tb,.string key,.string oth,.int .i64 ln,.int .i64 pr,.int .i64 bk,.slice A n c,.int .i64 idle,.int .i64 hard,.int .u64 ck,.bool tl] 26)
 have hks:key.size ≤ 9223372036854775807:=ho.1
 obtain ⟨W,hW⟩ : ∃ W,w.alloc (.cells #[.int .i64 tb,.string key,.string oth,.int .i64 ln,.int .i64 pr,.int .i64 bk,.slice A n c,.int .i64 idle,.int .i64 hard,.int .u64 ck,.bool tl] 26) = W:=⟨_,rfl⟩
 obtain ⟨B0,hB0⟩ : ∃ B,w.heap.size = B:=⟨_,rfl⟩
 have HW:=Lib.hid (And.intro hW hB0)
 rw [hW,hB0] at E0
 rw [hW] at G
 have HE:=Lib.hid E0
 have x0:=fun (y:After W) => wkeep (G.trans y.h) c0
 have x5:=fun (y:After W) => wkeep (G.trans y.h) c5
 have x6:=fun (y:After W) => wkeep (G.trans y.h) c6
 have HXs:=Lib.hid (fun (y:After W) => hX y.w (G.trans y.h))
 clear hW hB0 E0 c0 c5 c6 heng w4 w32 hsu hX ho hargs
 by_cases h1:tb = id
 · have e1:(tb == id) = true:=by simpa using h1
   by_cases h2:1 ≤ bk ∧ bk ≤ 65534
   · have zb:=zbetween_c bk 1 65534 (decide_eq_true h2)
     by_cases h3:n ≤ 4
     · have e3:decide ((n:Int) ≤ 4) = true:=decide_eq_true (by omega)
       have e3b:(n:Int) ≤ 4:=by omega
       by_cases h4:0 ≤ idle ∧ idle ≤ 1099511627776
       · have zi:=zbetweenT_c idle 0 1099511627776 (decide_eq_true h4)
         by_cases h5:0 ≤ hard ∧ hard ≤ 1099511627776
         · have zh:=zbetweenT_c hard 0 1099511627776 (decide_eq_true h5)
           by_cases h6:key.size = su
           · have e6:((key.size:Int) == (su:Int)) = true:=by rw [h6]; simp
             have hfit:=hfits h6 (r:=r) (by rw [← hr]; exact decide_eq_decide.2 (by simp [h1,h2,h3,h4,h5,h6]))
             clear hfits hr h1 h2 h3 h4 h5
             rcases hfit with ⟨p,hev,hfit⟩ | ⟨Z,hev,hfit⟩ | ⟨Z,hev,hfit⟩ | ⟨Z,D,nw,cw,hev,hfit⟩
             · simp only [hev] at x6
               have hf:∀ y:After W,Calls Tryz.prog 80 #[.agg #[.pointer (some p)],.agg #[.int .i64 tb,.string key,.string oth,.int .i64 ln,.int .i64 pr,.int .i64 bk,.slice A n c,.int .i64 idle,.int .i64 hard,.int .u64 ck,.bool tl]] y.w fun e w2 => e = .returned (.bool r) ∧ Wider y.w w2:=fun y => hfit (fun t ht => HXs.out y t ht) A n c
               clear hfit he hev
               have hmet : ∀ w, (method 357 102 (.agg #[.pointer (some p)]) "turnout/table.fits").run Tryz.prog w = .ok (80, .agg #[.pointer (some p)]) w := fun w => by kernel_rfl
               go_enter Tryz.func30,Tryz.ntmps30
               go_upto_region 1 with (fail)
               try rw [HW.out.1]
               try rw [HW.out.2]
               have zz:=fun (y:After W) => HE.out.on y.h
               obtain ⟨z0,z1,z2,z3,z4,z5,z6,z7,z8,z9,z10⟩ : (∀ y:After W,y.w.cell? ⟨B0,0,none⟩ = some (.int .i64 tb)) ∧ (∀ y:After W,y.w.cell? ⟨B0,1,none⟩ = some (.string key)) ∧ (∀ y:After W,y.w.cell? ⟨B0,2,none⟩ = some (.string oth)) ∧ (∀ y:After W,y.w.cell? ⟨B0,3,none⟩ = some (.int .i64 ln)) ∧ (∀ y:After W,y.w.cell? ⟨B0,4,none⟩ = some (.int .i64 pr)) ∧ (∀ y:After W,y.w.cell? ⟨B0,5,none⟩ = some (.int .i64 bk)) ∧ (∀ y:After W,y.w.cell? ⟨B0,6,none⟩ = some (.slice A n c)) ∧ (∀ y:After W,y.w.cell? ⟨B0,7,none⟩ = some (.int .i64 idle)) ∧ (∀ y:After W,y.w.cell? ⟨B0,8,none⟩ = some (.int .i64 hard)) ∧ (∀ y:After W,y.w.cell? ⟨B0,9,none⟩ = some (.int .u64 ck)) ∧ (∀ y:After W,y.w.cell? ⟨B0,10,none⟩ = some (.bool tl)):=⟨fun y => (zz y).1,fun y => (zz y).2.1,fun y => (zz y).2.2.1,fun y => (zz y).2.2.2.1,fun y => (zz y).2.2.2.2.1,fun y => (zz y).2.2.2.2.2.1,fun y => (zz y).2.2.2.2.2.2.1,fun y => (zz y).2.2.2.2.2.2.2.1,fun y => (zz y).2.2.2.2.2.2.2.2.1,fun y => (zz y).2.2.2.2.2.2.2.2.2.1,fun y => (zz y).2.2.2.2.2.2.2.2.2.2⟩
               refine wp_region_after (by kernel_rfl) (by kernel_rfl) (Wider.refl W) ?_
               repeat (go_big_quiet_step (first
                | (go_at_call 38; with_reducible exact quiet_after (zb _))
                | (go_at_call 45; with_reducible exact quiet_after (zi _))
                | (go_at_call 45; with_reducible exact quiet_after (zh _))
                | (go_at_call 80; with_reducible exact quiet_after (hf _))))
               refine wpQuiet_nil ?_
               rintro _ ⟨y,rfl⟩
               have G2:=G.trans y.h
               go_wp2
               go_ret
               exact ⟨rfl,G2⟩
             · simp only [hev] at x6
               have hf:∀ y:After W,Calls Tryz.prog 102 #[.agg #[.pointer (some ⟨Z,0,none⟩)],.agg #[.int .i64 tb,.string key,.string oth,.int .i64 ln,.int .i64 pr,.int .i64 bk,.slice A n c,.int .i64 idle,.int .i64 hard,.int .u64 ck,.bool tl]] y.w fun e w2 => e = .returned (.bool r) ∧ Wider y.w w2:=fun y => hfit (fun t ht => HXs.out y t ht) A n c
               clear hfit he hev
               have hmet : ∀ w, (method 357 106 (.agg #[.pointer (some ⟨Z, 0, none⟩)]) "turnout/table.fits").run Tryz.prog w = .ok (102, .agg #[.pointer (some ⟨Z, 0, none⟩)]) w := fun w => by kernel_rfl
               go_enter Tryz.func30,Tryz.ntmps30
               go_upto_region 1 with (fail)
               try rw [HW.out.1]
               try rw [HW.out.2]
               have zz:=fun (y:After W) => HE.out.on y.h
               obtain ⟨z0,z1,z2,z3,z4,z5,z6,z7,z8,z9,z10⟩ : (∀ y:After W,y.w.cell? ⟨B0,0,none⟩ = some (.int .i64 tb)) ∧ (∀ y:After W,y.w.cell? ⟨B0,1,none⟩ = some (.string key)) ∧ (∀ y:After W,y.w.cell? ⟨B0,2,none⟩ = some (.string oth)) ∧ (∀ y:After W,y.w.cell? ⟨B0,3,none⟩ = some (.int .i64 ln)) ∧ (∀ y:After W,y.w.cell? ⟨B0,4,none⟩ = some (.int .i64 pr)) ∧ (∀ y:After W,y.w.cell? ⟨B0,5,none⟩ = some (.int .i64 bk)) ∧ (∀ y:After W,y.w.cell? ⟨B0,6,none⟩ = some (.slice A n c)) ∧ (∀ y:After W,y.w.cell? ⟨B0,7,none⟩ = some (.int .i64 idle)) ∧ (∀ y:After W,y.w.cell? ⟨B0,8,none⟩ = some (.int .i64 hard)) ∧ (∀ y:After W,y.w.cell? ⟨B0,9,none⟩ = some (.int .u64 ck)) ∧ (∀ y:After W,y.w.cell? ⟨B0,10,none⟩ = some (.bool tl)):=⟨fun y => (zz y).1,fun y => (zz y).2.1,fun y => (zz y).2.2.1,fun y => (zz y).2.2.2.1,fun y => (zz y).2.2.2.2.1,fun y => (zz y).2.2.2.2.2.1,fun y => (zz y).2.2.2.2.2.2.1,fun y => (zz y).2.2.2.2.2.2.2.1,fun y => (zz y).2.2.2.2.2.2.2.2.1,fun y => (zz y).2.2.2.2.2.2.2.2.2.1,fun y => (zz y).2.2.2.2.2.2.2.2.2.2⟩
               refine wp_region_after (by kernel_rfl) (by kernel_rfl) (Wider.refl W) ?_
               repeat (go_big_quiet_step (first
                | (go_at_call 38; with_reducible exact quiet_after (zb _))
                | (go_at_call 45; with_reducible exact quiet_after (zi _))
                | (go_at_call 45; with_reducible exact quiet_after (zh _))
                | (go_at_call 102; with_reducible exact quiet_after (hf _))))
               refine wpQuiet_nil ?_
               rintro _ ⟨y,rfl⟩
               have G2:=G.trans y.h
               go_wp2
               go_ret
               exact ⟨rfl,G2⟩
             · simp only [hev] at x6
               have hf:∀ y:After W,Calls Tryz.prog 129 #[.agg #[.pointer (some ⟨Z,0,none⟩)],.agg #[.int .i64 tb,.string key,.string oth,.int .i64 ln,.int .i64 pr,.int .i64 bk,.slice A n c,.int .i64 idle,.int .i64 hard,.int .u64 ck,.bool tl]] y.w fun e w2 => e = .returned (.bool r) ∧ Wider y.w w2:=fun y => hfit (fun t ht => HXs.out y t ht) A n c
               clear hfit he hev
               have hmet : ∀ w, (method 357 110 (.agg #[.pointer (some ⟨Z, 0, none⟩)]) "turnout/table.fits").run Tryz.prog w = .ok (129, .agg #[.pointer (some ⟨Z, 0, none⟩)]) w := fun w => by kernel_rfl
               go_enter Tryz.func30,Tryz.ntmps30
               go_upto_region 1 with (fail)
               try rw [HW.out.1]
               try rw [HW.out.2]
               have zz:=fun (y:After W) => HE.out.on y.h
               obtain ⟨z0,z1,z2,z3,z4,z5,z6,z7,z8,z9,z10⟩ : (∀ y:After W,y.w.cell? ⟨B0,0,none⟩ = some (.int .i64 tb)) ∧ (∀ y:After W,y.w.cell? ⟨B0,1,none⟩ = some (.string key)) ∧ (∀ y:After W,y.w.cell? ⟨B0,2,none⟩ = some (.string oth)) ∧ (∀ y:After W,y.w.cell? ⟨B0,3,none⟩ = some (.int .i64 ln)) ∧ (∀ y:After W,y.w.cell? ⟨B0,4,none⟩ = some (.int .i64 pr)) ∧ (∀ y:After W,y.w.cell? ⟨B0,5,none⟩ = some (.int .i64 bk)) ∧ (∀ y:After W,y.w.cell? ⟨B0,6,none⟩ = some (.slice A n c)) ∧ (∀ y:After W,y.w.cell? ⟨B0,7,none⟩ = some (.int .i64 idle)) ∧ (∀ y:After W,y.w.cell? ⟨B0,8,none⟩ = some (.int .i64 hard)) ∧ (∀ y:After W,y.w.cell? ⟨B0,9,none⟩ = some (.int .u64 ck)) ∧ (∀ y:After W,y.w.cell? ⟨B0,10,none⟩ = some (.bool tl)):=⟨fun y => (zz y).1,fun y => (zz y).2.1,fun y => (zz y).2.2.1,fun y => (zz y).2.2.2.1,fun y => (zz y).2.2.2.2.1,fun y => (zz y).2.2.2.2.2.1,fun y => (zz y).2.2.2.2.2.2.1,fun y => (zz y).2.2.2.2.2.2.2.1,fun y => (zz y).2.2.2.2.2.2.2.2.1,fun y => (zz y).2.2.2.2.2.2.2.2.2.1,fun y => (zz y).2.2.2.2.2.2.2.2.2.2⟩
               refine wp_region_after (by kernel_rfl) (by kernel_rfl) (Wider.refl W) ?_
               repeat (go_big_quiet_step (first
                | (go_at_call 38; with_reducible exact quiet_after (zb _))
                | (go_at_call 45; with_reducible exact quiet_after (zi _))
                | (go_at_call 45; with_reducible exact quiet_after (zh _))
                | (go_at_call 129; with_reducible exact quiet_after (hf _))))
               refine wpQuiet_nil ?_
               rintro _ ⟨y,rfl⟩
               have G2:=G.trans y.h
               go_wp2
               go_ret
               exact ⟨rfl,G2⟩
             · simp only [hev] at x6
               have hf:∀ y:After W,Calls Tryz.prog 183 #[.agg #[.pointer (some ⟨Z,0,none⟩),.slice D nw cw],.agg #[.int .i64 tb,.string key,.string oth,.int .i64 ln,.int .i64 pr,.int .i64 bk,.slice A n c,.int .i64 idle,.int .i64 hard,.int .u64 ck,.bool tl]] y.w fun e w2 => e = .returned (.bool r) ∧ Wider y.w w2:=fun y => hfit (fun t ht => HXs.out y t ht) A n c
               clear hfit he hev
               have hmet : ∀ w, (method 357 115 (.agg #[.pointer (some ⟨Z, 0, none⟩), .slice D nw cw]) "turnout/table.fits").run Tryz.prog w = .ok (183, .agg #[.pointer (some ⟨Z, 0, none⟩), .slice D nw cw]) w := fun w => by kernel_rfl
               go_enter Tryz.func30,Tryz.ntmps30
               go_upto_region 1 with (fail)
               try rw [HW.out.1]
               try rw [HW.out.2]
               have zz:=fun (y:After W) => HE.out.on y.h
               obtain ⟨z0,z1,z2,z3,z4,z5,z6,z7,z8,z9,z10⟩ : (∀ y:After W,y.w.cell? ⟨B0,0,none⟩ = some (.int .i64 tb)) ∧ (∀ y:After W,y.w.cell? ⟨B0,1,none⟩ = some (.string key)) ∧ (∀ y:After W,y.w.cell? ⟨B0,2,none⟩ = some (.string oth)) ∧ (∀ y:After W,y.w.cell? ⟨B0,3,none⟩ = some (.int .i64 ln)) ∧ (∀ y:After W,y.w.cell? ⟨B0,4,none⟩ = some (.int .i64 pr)) ∧ (∀ y:After W,y.w.cell? ⟨B0,5,none⟩ = some (.int .i64 bk)) ∧ (∀ y:After W,y.w.cell? ⟨B0,6,none⟩ = some (.slice A n c)) ∧ (∀ y:After W,y.w.cell? ⟨B0,7,none⟩ = some (.int .i64 idle)) ∧ (∀ y:After W,y.w.cell? ⟨B0,8,none⟩ = some (.int .i64 hard)) ∧ (∀ y:After W,y.w.cell? ⟨B0,9,none⟩ = some (.int .u64 ck)) ∧ (∀ y:After W,y.w.cell? ⟨B0,10,none⟩ = some (.bool tl)):=⟨fun y => (zz y).1,fun y => (zz y).2.1,fun y => (zz y).2.2.1,fun y => (zz y).2.2.2.1,fun y => (zz y).2.2.2.2.1,fun y => (zz y).2.2.2.2.2.1,fun y => (zz y).2.2.2.2.2.2.1,fun y => (zz y).2.2.2.2.2.2.2.1,fun y => (zz y).2.2.2.2.2.2.2.2.1,fun y => (zz y).2.2.2.2.2.2.2.2.2.1,fun y => (zz y).2.2.2.2.2.2.2.2.2.2⟩
               refine wp_region_after (by kernel_rfl) (by kernel_rfl) (Wider.refl W) ?_
               repeat (go_big_quiet_step (first
                | (go_at_call 38; with_reducible exact quiet_after (zb _))
                | (go_at_call 45; with_reducible exact quiet_after (zi _))
                | (go_at_call 45; with_reducible exact quiet_after (zh _))
                | (go_at_call 183; with_reducible exact quiet_after (hf _))))
               refine wpQuiet_nil ?_
               rintro _ ⟨y,rfl⟩
               have G2:=G.trans y.h
               go_wp2
               go_ret
               exact ⟨rfl,G2⟩
           · obtain rfl:r = false:=by rw [← hr]; exact decide_eq_false fun q => h6 q.2.1
             have e6:((key.size:Int) == (su:Int)) = false:=by rw [beq_eq_false_iff_ne]; omega
             clear hfits hr h1 h2 h3 h4 h5 h6
             subst he
             go_enter Tryz.func30,Tryz.ntmps30
             go_upto_region 1 with (fail)
             try rw [HW.out.1]
             try rw [HW.out.2]
             have zz:=fun (y:After W) => HE.out.on y.h
             obtain ⟨z0,z1,z2,z3,z4,z5,z6,z7,z8,z9,z10⟩ : (∀ y:After W,y.w.cell? ⟨B0,0,none⟩ = some (.int .i64 tb)) ∧ (∀ y:After W,y.w.cell? ⟨B0,1,none⟩ = some (.string key)) ∧ (∀ y:After W,y.w.cell? ⟨B0,2,none⟩ = some (.string oth)) ∧ (∀ y:After W,y.w.cell? ⟨B0,3,none⟩ = some (.int .i64 ln)) ∧ (∀ y:After W,y.w.cell? ⟨B0,4,none⟩ = some (.int .i64 pr)) ∧ (∀ y:After W,y.w.cell? ⟨B0,5,none⟩ = some (.int .i64 bk)) ∧ (∀ y:After W,y.w.cell? ⟨B0,6,none⟩ = some (.slice A n c)) ∧ (∀ y:After W,y.w.cell? ⟨B0,7,none⟩ = some (.int .i64 idle)) ∧ (∀ y:After W,y.w.cell? ⟨B0,8,none⟩ = some (.int .i64 hard)) ∧ (∀ y:After W,y.w.cell? ⟨B0,9,none⟩ = some (.int .u64 ck)) ∧ (∀ y:After W,y.w.cell? ⟨B0,10,none⟩ = some (.bool tl)):=⟨fun y => (zz y).1,fun y => (zz y).2.1,fun y => (zz y).2.2.1,fun y => (zz y).2.2.2.1,fun y => (zz y).2.2.2.2.1,fun y => (zz y).2.2.2.2.2.1,fun y => (zz y).2.2.2.2.2.2.1,fun y => (zz y).2.2.2.2.2.2.2.1,fun y => (zz y).2.2.2.2.2.2.2.2.1,fun y => (zz y).2.2.2.2.2.2.2.2.2.1,fun y => (zz y).2.2.2.2.2.2.2.2.2.2⟩
             refine wp_region_after (by kernel_rfl) (by kernel_rfl) (Wider.refl W) ?_
             repeat (go_big_quiet_step (first
              | (go_at_call 38; with_reducible exact quiet_after (zb _))
              | (go_at_call 45; with_reducible exact quiet_after (zi _))
              | (go_at_call 45; with_reducible exact quiet_after (zh _))))
             refine wpQuiet_nil ?_
             rintro _ ⟨y,rfl⟩
             have G2:=G.trans y.h
             go_wp2
             go_ret
             exact ⟨rfl,G2⟩
         · obtain rfl:r = false:=by rw [← hr]; exact decide_eq_false fun q => h5 q.1.2.2.2.2
           have zh:=zbetweenT_c hard 0 1099511627776 (decide_eq_false h5)
           clear hfits hr h1 h2 h3 h4 h5
           subst he
           go_enter Tryz.func30,Tryz.ntmps30
           go_upto_region 1 with (fail)
           try rw [HW.out.1]
           try rw [HW.out.2]
           have zz:=fun (y:After W) => HE.out.on y.h
           obtain ⟨z0,z1,z2,z3,z4,z5,z6,z7,z8,z9,z10⟩ : (∀ y:After W,y.w.cell? ⟨B0,0,none⟩ = some (.int .i64 tb)) ∧ (∀ y:After W,y.w.cell? ⟨B0,1,none⟩ = some (.string key)) ∧ (∀ y:After W,y.w.cell? ⟨B0,2,none⟩ = some (.string oth)) ∧ (∀ y:After W,y.w.cell? ⟨B0,3,none⟩ = some (.int .i64 ln)) ∧ (∀ y:After W,y.w.cell? ⟨B0,4,none⟩ = some (.int .i64 pr)) ∧ (∀ y:After W,y.w.cell? ⟨B0,5,none⟩ = some (.int .i64 bk)) ∧ (∀ y:After W,y.w.cell? ⟨B0,6,none⟩ = some (.slice A n c)) ∧ (∀ y:After W,y.w.cell? ⟨B0,7,none⟩ = some (.int .i64 idle)) ∧ (∀ y:After W,y.w.cell? ⟨B0,8,none⟩ = some (.int .i64 hard)) ∧ (∀ y:After W,y.w.cell? ⟨B0,9,none⟩ = some (.int .u64 ck)) ∧ (∀ y:After W,y.w.cell? ⟨B0,10,none⟩ = some (.bool tl)):=⟨fun y => (zz y).1,fun y => (zz y).2.1,fun y => (zz y).2.2.1,fun y => (zz y).2.2.2.1,fun y => (zz y).2.2.2.2.1,fun y => (zz y).2.2.2.2.2.1,fun y => (zz y).2.2.2.2.2.2.1,fun y => (zz y).2.2.2.2.2.2.2.1,fun y => (zz y).2.2.2.2.2.2.2.2.1,fun y => (zz y).2.2.2.2.2.2.2.2.2.1,fun y => (zz y).2.2.2.2.2.2.2.2.2.2⟩
           refine wp_region_after (by kernel_rfl) (by kernel_rfl) (Wider.refl W) ?_
           repeat (go_big_quiet_step (first
            | (go_at_call 38; with_reducible exact quiet_after (zb _))
            | (go_at_call 45; with_reducible exact quiet_after (zi _))
            | (go_at_call 45; with_reducible exact quiet_after (zh _))))
           refine wpQuiet_nil ?_
           rintro _ ⟨y,rfl⟩
           have G2:=G.trans y.h
           go_wp2
           go_ret
           exact ⟨rfl,G2⟩
       · obtain rfl:r = false:=by rw [← hr]; exact decide_eq_false fun q => h4 q.1.2.2.2.1
         have zi:=zbetweenT_c idle 0 1099511627776 (decide_eq_false h4)
         clear hfits hr h1 h2 h3 h4
         subst he
         go_enter Tryz.func30,Tryz.ntmps30
         go_upto_region 1 with (fail)
         try rw [HW.out.1]
         try rw [HW.out.2]
         have zz:=fun (y:After W) => HE.out.on y.h
         obtain ⟨z0,z1,z2,z3,z4,z5,z6,z7,z8,z9,z10⟩ : (∀ y:After W,y.w.cell? ⟨B0,0,none⟩ = some (.int .i64 tb)) ∧ (∀ y:After W,y.w.cell? ⟨B0,1,none⟩ = some (.string key)) ∧ (∀ y:After W,y.w.cell? ⟨B0,2,none⟩ = some (.string oth)) ∧ (∀ y:After W,y.w.cell? ⟨B0,3,none⟩ = some (.int .i64 ln)) ∧ (∀ y:After W,y.w.cell? ⟨B0,4,none⟩ = some (.int .i64 pr)) ∧ (∀ y:After W,y.w.cell? ⟨B0,5,none⟩ = some (.int .i64 bk)) ∧ (∀ y:After W,y.w.cell? ⟨B0,6,none⟩ = some (.slice A n c)) ∧ (∀ y:After W,y.w.cell? ⟨B0,7,none⟩ = some (.int .i64 idle)) ∧ (∀ y:After W,y.w.cell? ⟨B0,8,none⟩ = some (.int .i64 hard)) ∧ (∀ y:After W,y.w.cell? ⟨B0,9,none⟩ = some (.int .u64 ck)) ∧ (∀ y:After W,y.w.cell? ⟨B0,10,none⟩ = some (.bool tl)):=⟨fun y => (zz y).1,fun y => (zz y).2.1,fun y => (zz y).2.2.1,fun y => (zz y).2.2.2.1,fun y => (zz y).2.2.2.2.1,fun y => (zz y).2.2.2.2.2.1,fun y => (zz y).2.2.2.2.2.2.1,fun y => (zz y).2.2.2.2.2.2.2.1,fun y => (zz y).2.2.2.2.2.2.2.2.1,fun y => (zz y).2.2.2.2.2.2.2.2.2.1,fun y => (zz y).2.2.2.2.2.2.2.2.2.2⟩
         refine wp_region_after (by kernel_rfl) (by kernel_rfl) (Wider.refl W) ?_
         repeat (go_big_quiet_step (first
          | (go_at_call 38; with_reducible exact quiet_after (zb _))
          | (go_at_call 45; with_reducible exact quiet_after (zi _))))
         refine wpQuiet_nil ?_
         rintro _ ⟨y,rfl⟩
         have G2:=G.trans y.h
         go_wp2
         go_ret
         exact ⟨rfl,G2⟩
     · obtain rfl:r = false:=by rw [← hr]; exact decide_eq_false fun q => h3 q.1.2.2.1
       have e3:decide ((n:Int) ≤ 4) = false:=decide_eq_false (by omega)
       have e3b:¬ (n:Int) ≤ 4:=by omega
       clear hfits hr h1 h2 h3
       subst he
       go_enter Tryz.func30,Tryz.ntmps30
       go_upto_region 1 with (fail)
       try rw [HW.out.1]
       try rw [HW.out.2]
       have zz:=fun (y:After W) => HE.out.on y.h
       obtain ⟨z0,z1,z2,z3,z4,z5,z6,z7,z8,z9,z10⟩ : (∀ y:After W,y.w.cell? ⟨B0,0,none⟩ = some (.int .i64 tb)) ∧ (∀ y:After W,y.w.cell? ⟨B0,1,none⟩ = some (.string key)) ∧ (∀ y:After W,y.w.cell? ⟨B0,2,none⟩ = some (.string oth)) ∧ (∀ y:After W,y.w.cell? ⟨B0,3,none⟩ = some (.int .i64 ln)) ∧ (∀ y:After W,y.w.cell? ⟨B0,4,none⟩ = some (.int .i64 pr)) ∧ (∀ y:After W,y.w.cell? ⟨B0,5,none⟩ = some (.int .i64 bk)) ∧ (∀ y:After W,y.w.cell? ⟨B0,6,none⟩ = some (.slice A n c)) ∧ (∀ y:After W,y.w.cell? ⟨B0,7,none⟩ = some (.int .i64 idle)) ∧ (∀ y:After W,y.w.cell? ⟨B0,8,none⟩ = some (.int .i64 hard)) ∧ (∀ y:After W,y.w.cell? ⟨B0,9,none⟩ = some (.int .u64 ck)) ∧ (∀ y:After W,y.w.cell? ⟨B0,10,none⟩ = some (.bool tl)):=⟨fun y => (zz y).1,fun y => (zz y).2.1,fun y => (zz y).2.2.1,fun y => (zz y).2.2.2.1,fun y => (zz y).2.2.2.2.1,fun y => (zz y).2.2.2.2.2.1,fun y => (zz y).2.2.2.2.2.2.1,fun y => (zz y).2.2.2.2.2.2.2.1,fun y => (zz y).2.2.2.2.2.2.2.2.1,fun y => (zz y).2.2.2.2.2.2.2.2.2.1,fun y => (zz y).2.2.2.2.2.2.2.2.2.2⟩
       refine wp_region_after (by kernel_rfl) (by kernel_rfl) (Wider.refl W) ?_
       repeat (go_big_quiet_step (first
        | (go_at_call 38; with_reducible exact quiet_after (zb _))))
       refine wpQuiet_nil ?_
       rintro _ ⟨y,rfl⟩
       have G2:=G.trans y.h
       go_wp2
       go_ret
       exact ⟨rfl,G2⟩
   · obtain rfl:r = false:=by rw [← hr]; exact decide_eq_false fun q => h2 q.1.2.1
     have zb:=zbetween_c bk 1 65534 (decide_eq_false h2)
     clear hfits hr h1 h2
     subst he
     go_enter Tryz.func30,Tryz.ntmps30
     go_upto_region 1 with (fail)
     try rw [HW.out.1]
     try rw [HW.out.2]
     have zz:=fun (y:After W) => HE.out.on y.h
     obtain ⟨z0,z1,z2,z3,z4,z5,z6,z7,z8,z9,z10⟩ : (∀ y:After W,y.w.cell? ⟨B0,0,none⟩ = some (.int .i64 tb)) ∧ (∀ y:After W,y.w.cell? ⟨B0,1,none⟩ = some (.string key)) ∧ (∀ y:After W,y.w.cell? ⟨B0,2,none⟩ = some (.string oth)) ∧ (∀ y:After W,y.w.cell? ⟨B0,3,none⟩ = some (.int .i64 ln)) ∧ (∀ y:After W,y.w.cell? ⟨B0,4,none⟩ = some (.int .i64 pr)) ∧ (∀ y:After W,y.w.cell? ⟨B0,5,none⟩ = some (.int .i64 bk)) ∧ (∀ y:After W,y.w.cell? ⟨B0,6,none⟩ = some (.slice A n c)) ∧ (∀ y:After W,y.w.cell? ⟨B0,7,none⟩ = some (.int .i64 idle)) ∧ (∀ y:After W,y.w.cell? ⟨B0,8,none⟩ = some (.int .i64 hard)) ∧ (∀ y:After W,y.w.cell? ⟨B0,9,none⟩ = some (.int .u64 ck)) ∧ (∀ y:After W,y.w.cell? ⟨B0,10,none⟩ = some (.bool tl)):=⟨fun y => (zz y).1,fun y => (zz y).2.1,fun y => (zz y).2.2.1,fun y => (zz y).2.2.2.1,fun y => (zz y).2.2.2.2.1,fun y => (zz y).2.2.2.2.2.1,fun y => (zz y).2.2.2.2.2.2.1,fun y => (zz y).2.2.2.2.2.2.2.1,fun y => (zz y).2.2.2.2.2.2.2.2.1,fun y => (zz y).2.2.2.2.2.2.2.2.2.1,fun y => (zz y).2.2.2.2.2.2.2.2.2.2⟩
     refine wp_region_after (by kernel_rfl) (by kernel_rfl) (Wider.refl W) ?_
     repeat (go_big_quiet_step (first
      | (go_at_call 38; with_reducible exact quiet_after (zb _))))
     refine wpQuiet_nil ?_
     rintro _ ⟨y,rfl⟩
     have G2:=G.trans y.h
     go_wp2
     go_ret
     exact ⟨rfl,G2⟩
 · obtain rfl:r = false:=by rw [← hr]; exact decide_eq_false fun q => h1 q.1.1
   have e1:(tb == id) = false:=by simpa using h1
   clear hfits hr h1
   subst he
   go_enter Tryz.func30,Tryz.ntmps30
   go_upto_region 1 with (fail)
   try rw [HW.out.1]
   try rw [HW.out.2]
   have zz:=fun (y:After W) => HE.out.on y.h
   obtain ⟨z0,z1,z2,z3,z4,z5,z6,z7,z8,z9,z10⟩ : (∀ y:After W,y.w.cell? ⟨B0,0,none⟩ = some (.int .i64 tb)) ∧ (∀ y:After W,y.w.cell? ⟨B0,1,none⟩ = some (.string key)) ∧ (∀ y:After W,y.w.cell? ⟨B0,2,none⟩ = some (.string oth)) ∧ (∀ y:After W,y.w.cell? ⟨B0,3,none⟩ = some (.int .i64 ln)) ∧ (∀ y:After W,y.w.cell? ⟨B0,4,none⟩ = some (.int .i64 pr)) ∧ (∀ y:After W,y.w.cell? ⟨B0,5,none⟩ = some (.int .i64 bk)) ∧ (∀ y:After W,y.w.cell? ⟨B0,6,none⟩ = some (.slice A n c)) ∧ (∀ y:After W,y.w.cell? ⟨B0,7,none⟩ = some (.int .i64 idle)) ∧ (∀ y:After W,y.w.cell? ⟨B0,8,none⟩ = some (.int .i64 hard)) ∧ (∀ y:After W,y.w.cell? ⟨B0,9,none⟩ = some (.int .u64 ck)) ∧ (∀ y:After W,y.w.cell? ⟨B0,10,none⟩ = some (.bool tl)):=⟨fun y => (zz y).1,fun y => (zz y).2.1,fun y => (zz y).2.2.1,fun y => (zz y).2.2.2.1,fun y => (zz y).2.2.2.2.1,fun y => (zz y).2.2.2.2.2.1,fun y => (zz y).2.2.2.2.2.2.1,fun y => (zz y).2.2.2.2.2.2.2.1,fun y => (zz y).2.2.2.2.2.2.2.2.1,fun y => (zz y).2.2.2.2.2.2.2.2.2.1,fun y => (zz y).2.2.2.2.2.2.2.2.2.2⟩
   refine wp_region_after (by kernel_rfl) (by kernel_rfl) (Wider.refl W) ?_
   repeat (go_big_quiet_step (fail))
   refine wpQuiet_nil ?_
   rintro _ ⟨y,rfl⟩
   have G2:=G.trans y.h
   go_wp2
   go_ret
   exact ⟨rfl,G2⟩
end Go.Proofs.YtbnpelciceblfaaGreat
