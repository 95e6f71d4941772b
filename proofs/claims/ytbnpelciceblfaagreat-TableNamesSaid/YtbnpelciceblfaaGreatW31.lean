/- ZAwa YLaw YEntries YGone ZAwake -/
import Derived.Test.YtbnpelciceblfaaGreatW30
namespace Go.Proofs.YtbnpelciceblfaaGreat
set_option linter.unusedVariables false
open Go.ChangeShapes Go.WideShapes Go.ChangeAt Go.RowKit Go.Joins
set_option maxHeartbeats 64000000
theorem StoreK.less {V w:World} {R:List Thing} {S:Nat} {s:StM} {k:Int} {ws:List Nat} {t:Thing} (h:StoreK k ws V w (t :: R) S s):StoreK k ws V w R S s:=by
 obtain ⟨T,H,q⟩:=h
 exact ⟨T,own_unbox (A:=[]) (B:=T) (t:=t) (R:=R) H,q⟩
theorem nums_blk {V W:World} {L:List Thing} {B n c:Nat} {zs:List Int} {T:TypeId} (H:Own V W L) (hm:blkT B (intsZ zs).toArray T ∈ L) (hn:zs.length = n):NumsAt W (.slice (some ⟨B,0,none⟩) n c) zs:=by
 refine ⟨_,_,_,rfl,hn,fun e => (by cases e),fun a ea j z hj => ?_⟩
 cases ea
 have k:=blk_cell (H.holds _ hm) j (v:=.int .i64 z) (by
  show (intsZ zs).toArray[j]? = _
  rw [List.getElem?_toArray]
  unfold intsZ
  rw [List.getElem?_map,hj]; rfl)
 have e:(⟨B,0,none⟩ : Addr).add j = ⟨B,j,none⟩:=by unfold Addr.add; split <;> simp_all
 rw [e]; exact k
theorem zmakeI1 (w:World):(Instr.makeSlice 34 (.int .i64 1) (.int .i64 1)).run Tryz.prog w = .ok (.slice (some ⟨w.heap.size,0,none⟩) 1 1) (w.alloc (.cells #[.int .i64 0] 3)):=by
 kernel_rfl
set_option maxRecDepth 20000 in
theorem of1_c {V w:World} {R:List Thing} (H:Own V w R) {kind room:Int} {WA:Option Addr} {wc:Nat} {zs:List Int} (hz:∀ W,Own V W R → NumsAt W (.slice WA 1 wc) zs) (hm:MayTab ⟨1,kind,[0],room,0⟩ zs) :
 Calls Tryz.prog 8 #[.int .u8 kind,.int .i64 room,.slice WA 1 wc] w fun e w' => ∃ S,e = .returned (pS S) ∧ StoreK kind (zs.map Int.toNat) V w' R S ⟨1,kmOf kind (zs.map Int.toNat),room.toNat,[],0⟩:=by
 have hmk:=zmakeI1 w
 have H1:=H.blk #[.int .i64 0] 3
 obtain ⟨B,hB⟩ : ∃ B,w.heap.size = B:=⟨_,rfl⟩
 obtain ⟨W1,hW1⟩ : ∃ W1,w.alloc (.cells #[.int .i64 0] 3) = W1:=⟨_,rfl⟩
 rw [hB,hW1] at H1 hmk
 have zn:=knew_c H1 ⟨1,kind,[0],room,0⟩ (KA:=some ⟨B,0,none⟩) (kn:=1) (kc:=1) (fun W k => nums_blk (zs:=[0]) k (.head _) rfl) (by decide) (fun W k => hz W k.drop) (by decide) hm
 have zn:Calls Tryz.prog 11 #[.agg #[.int .i64 1,.int .u8 kind,.slice (some ⟨B,0,none⟩) 1 1,.int .i64 room,.int .i64 0],.slice WA 1 wc] W1 fun e w' => ∃ S,e = .returned (.tuple #[pS S,.int .i64 0]) ∧ StoreK kind (zs.map Int.toNat) V w' (blkT B #[.int .i64 0] 3 :: R) S ⟨1,kmOf kind (zs.map Int.toNat),room.toNat,[],0⟩:=zn
 clear hB hW1 H1 H hz hm
 go_enter Tryz.func8,Tryz.ntmps8
 go_wp2_with (first
  | (go_at_call 11; ((with_reducible refine zn.mono ?_); rintro e w1 ⟨S,rfl,K⟩; clear zn hmk)))
 go_ret
 exact ⟨S,rfl,K.less⟩
theorem zmakeI2 (w:World):(Instr.makeSlice 34 (.int .i64 2) (.int .i64 2)).run Tryz.prog w = .ok (.slice (some ⟨w.heap.size,0,none⟩) 2 2) (w.alloc (.cells #[.int .i64 0,.int .i64 0] 3)):=by
 kernel_rfl
set_option maxRecDepth 20000 in
theorem of2_c {V w:World} {R:List Thing} (H:Own V w R) {kind room:Int} {WA:Option Addr} {wc:Nat} {zs:List Int} (hz:∀ W,Own V W R → NumsAt W (.slice WA 2 wc) zs) (hm:MayTab ⟨1,kind,[0,0],room,0⟩ zs) :
 Calls Tryz.prog 8 #[.int .u8 kind,.int .i64 room,.slice WA 2 wc] w fun e w' => ∃ S,e = .returned (pS S) ∧ StoreK kind (zs.map Int.toNat) V w' R S ⟨1,kmOf kind (zs.map Int.toNat),room.toNat,[],0⟩:=by
 have hmk:=zmakeI2 w
 have H1:=H.blk #[.int .i64 0,.int .i64 0] 3
 obtain ⟨B,hB⟩ : ∃ B,w.heap.size = B:=⟨_,rfl⟩
 obtain ⟨W1,hW1⟩ : ∃ W1,w.alloc (.cells #[.int .i64 0,.int .i64 0] 3) = W1:=⟨_,rfl⟩
 rw [hB,hW1] at H1 hmk
 have zn:=knew_c H1 ⟨1,kind,[0,0],room,0⟩ (KA:=some ⟨B,0,none⟩) (kn:=2) (kc:=2) (fun W k => nums_blk (zs:=[0,0]) k (.head _) rfl) (by decide) (fun W k => hz W k.drop) (by decide) hm
 have zn:Calls Tryz.prog 11 #[.agg #[.int .i64 1,.int .u8 kind,.slice (some ⟨B,0,none⟩) 2 2,.int .i64 room,.int .i64 0],.slice WA 2 wc] W1 fun e w' => ∃ S,e = .returned (.tuple #[pS S,.int .i64 0]) ∧ StoreK kind (zs.map Int.toNat) V w' (blkT B #[.int .i64 0,.int .i64 0] 3 :: R) S ⟨1,kmOf kind (zs.map Int.toNat),room.toNat,[],0⟩:=zn
 clear hB hW1 H1 H hz hm
 go_enter Tryz.func8,Tryz.ntmps8
 go_wp2_with (first
  | (go_at_call 11; ((with_reducible refine zn.mono ?_); rintro e w1 ⟨S,rfl,K⟩; clear zn hmk)))
 go_ret
 exact ⟨S,rfl,K.less⟩
abbrev putX (tb:Int) (key oth:ByteArray) (ln bk idle hard:Int):EntV:=⟨tb,key,oth,ln,0,bk,[],idle,hard,0,false⟩
set_option maxRecDepth 20000 in
theorem puts_c {V w:World} {R:List Thing} {S:Nat} {s:StM} {k:Int} {ws:List Nat} (h:StoreK k ws V w R S s) (hN:s.n < 99990) (key oth:ByteArray) (ln bk idle hard now:Int) (ho:(putX 1 key oth ln bk idle hard).Ok) (hm:mayT s (putX 1 key oth ln bk idle hard) = true) (hno:¬ hasE s.L (putX 1 key oth ln bk idle hard)) (room:s.L.length < s.cap) :
 Calls Tryz.prog 28 #[pS S,.agg #[.int .i64 0,.string key,.string oth,.int .i64 ln,.int .i64 0,.int .i64 bk,.slice none 0 0,.int .i64 idle,.int .i64 hard,.int .u64 0,.bool false],.int .i64 now] w fun e w' => e = .returned (.bool true) ∧ StoreK k ws V w' R S { s with L:=s.L ++ [⟨putX 1 key oth ln bk idle hard,clampT now,clampT now⟩],n:=s.n + 1 } :=by
 have g:=(Wider.refl w).alloc (.cells #[.int .i64 1,.string key,.string oth,.int .i64 ln,.int .i64 0,.int .i64 bk,.slice none 0 0,.int .i64 idle,.int .i64 hard,.int .u64 0,.bool false] 26)
 have H2:=h.rest.blk #[.int .i64 1,.string key,.string oth,.int .i64 ln,.int .i64 0,.int .i64 bk,.slice none 0 0,.int .i64 idle,.int .i64 hard,.int .u64 0,.bool false] 26
 have zp:=kput_c (h.quiet g) hN (x:=putX 1 key oth ln bk idle hard) (av:=.slice none 0 0) (fun W _ => ⟨none,0,0,rfl,rfl,fun _ => rfl,fun a e => (by cases e)⟩) ho hm hno room now
 have zp:Calls Tryz.prog 10 #[.pointer (some ⟨S,0,none⟩),.agg #[.int .i64 1,.string key,.string oth,.int .i64 ln,.int .i64 0,.int .i64 bk,.slice none 0 0,.int .i64 idle,.int .i64 hard,.int .u64 0,.bool false],.int .i64 now] _ fun e w' => e = .returned (.int .i64 0) ∧ StoreK k ws V w' R S { s with L:=s.L ++ [⟨putX 1 key oth ln bk idle hard,clampT now,clampT now⟩],n:=s.n + 1 } :=zp
 obtain ⟨P,hP⟩ : ∃ P,({ s with L:=s.L ++ [(⟨putX 1 key oth ln bk idle hard,clampT now,clampT now⟩ : HeldM)],n:=s.n + 1 } : StM) = P:=⟨_,rfl⟩
 rw [hP] at zp ⊢
 obtain ⟨W1,hW1⟩ : ∃ W,w.alloc (.cells #[.int .i64 1,.string key,.string oth,.int .i64 ln,.int .i64 0,.int .i64 bk,.slice none 0 0,.int .i64 idle,.int .i64 hard,.int .u64 0,.bool false] 26) = W:=⟨_,rfl⟩
 rw [hW1] at zp H2
 obtain ⟨B1,hB1⟩ : ∃ B,w.heap.size = B:=⟨_,rfl⟩
 rw [hB1] at H2
 have c0:=blk_cell H2.head 0 (v:=.int .i64 1) rfl
 have c1:=blk_cell H2.head 1 (v:=.string key) rfl
 have c2:=blk_cell H2.head 2 (v:=.string oth) rfl
 have c3:=blk_cell H2.head 3 (v:=.int .i64 ln) rfl
 have c4:=blk_cell H2.head 4 (v:=.int .i64 0) rfl
 have c5:=blk_cell H2.head 5 (v:=.int .i64 bk) rfl
 have c6:=blk_cell H2.head 6 (v:=.slice none 0 0) rfl
 have c7:=blk_cell H2.head 7 (v:=.int .i64 idle) rfl
 have c8:=blk_cell H2.head 8 (v:=.int .i64 hard) rfl
 have c9:=blk_cell H2.head 9 (v:=.int .u64 0) rfl
 have c10:=blk_cell H2.head 10 (v:=.bool false) rfl
 clear hP g H2 h hN ho hm hno room
 show Calls Tryz.prog 28 #[.pointer (some ⟨S,0,none⟩),.agg #[.int .i64 0,.string key,.string oth,.int .i64 ln,.int .i64 0,.int .i64 bk,.slice none 0 0,.int .i64 idle,.int .i64 hard,.int .u64 0,.bool false],.int .i64 now] w _
 go_enter Tryz.func28,Tryz.ntmps28
 go_upto_region 2 with (fail)
 try rw [hW1]
 try rw [hB1]
 clear hW1 hB1
 go_wp2_with (first
  | (go_at_call 10; ((with_reducible refine zp.mono ?_); rintro e w1 ⟨rfl,K⟩; clear zp)))
 go_ret
 exact ⟨rfl,K⟩
set_option maxRecDepth 20000 in
theorem finds_c {V w:World} {R:List Thing} {S:Nat} {s:StM} {k:Int} {ws:List Nat} (h:StoreK k ws V w R S s) (hN:s.n < 99990) (key:ByteArray) (hk:key.size = ws.sum) (hk2:key.size < 1000) {o:Option HeldM} (ho:LookO k ws s.L key o) (bk:Int) (hb:match o with | none => bk = 0 | some g => g.x.bk = bk ∧ 0 < bk) :
 Calls Tryz.prog 29 #[pS S,.string key,.int .i64 bk] w fun e w' => e = .returned (.bool true) ∧ StoreK k ws V w' R S s:=by
 have zl:=klook_c h hN key hk hk2 ho
 clear h hN hk hk2
 cases o with
 | none =>
   obtain rfl:bk = 0:=hb
   skip
   show Calls Tryz.prog 29 #[.pointer (some ⟨S,0,none⟩),.string key,.int .i64 0] w _
   have zl:Calls Tryz.prog 14 #[.pointer (some ⟨S,0,none⟩),.string key] w fun e w' => (∃ x A n c,x = zeroX ∧ e = .returned (.tuple #[entV x (.slice A n c),.bool false])) ∧ StoreK k ws V w' R S s:=zl
   go_enter Tryz.func29,Tryz.ntmps29
   go_wp2_with (first
    | (go_at_call 14; ((with_reducible refine zl.mono ?_); rintro e w1 ⟨⟨x,A,n,c,rfl,rfl⟩,K⟩; have K:=K.quiet ((Wider.refl w1).alloc (.cells #[.int .i64 0,.string ⟨#[]⟩,.string ⟨#[]⟩,.int .i64 0,.int .i64 0,.int .i64 0,.slice A n c,.int .i64 0,.int .i64 0,.int .u64 0,.bool false] 26)); clear zl)))
   go_ret
   exact ⟨rfl,K⟩
 | some g =>
   obtain ⟨hx,h0⟩ : g.x.bk = bk ∧ 0 < bk:=hb
   skip
   have e1:(bk == bk) = true:=beq_self_eq_true bk
   have e2:decide (bk > 0) = true:=decide_eq_true h0
   have e3:decide (0 < bk) = true:=decide_eq_true h0
   obtain ⟨x,hgx⟩ : ∃ x,g.x = x:=⟨_,rfl⟩
   show Calls Tryz.prog 29 #[.pointer (some ⟨S,0,none⟩),.string key,.int .i64 bk] w _
   have zl:Calls Tryz.prog 14 #[.pointer (some ⟨S,0,none⟩),.string key] w fun e w' => (∃ y A n c,y = g.x ∧ e = .returned (.tuple #[entV y (.slice A n c),.bool true])) ∧ StoreK k ws V w' R S s:=zl
   rw [hgx] at zl hx
   obtain ⟨tb,xk,xo,ln,pr,bk2,args,idle,hard,ck,tl⟩:=x
   obtain rfl:bk2 = bk:=hx
   clear hgx
   have zl:Calls Tryz.prog 14 #[.pointer (some ⟨S,0,none⟩),.string key] w fun e w' => (∃ A n c,e = .returned (.tuple #[.agg #[.int .i64 tb,.string xk,.string xo,.int .i64 ln,.int .i64 pr,.int .i64 bk2,.slice A n c,.int .i64 idle,.int .i64 hard,.int .u64 ck,.bool tl],.bool true])) ∧ StoreK k ws V w' R S s:=zl.mono fun e w' h => by
    obtain ⟨⟨y,A,n,c,rfl,rfl⟩,K⟩:=h
    exact ⟨⟨A,n,c,rfl⟩,K⟩
   go_enter Tryz.func29,Tryz.ntmps29
   go_wp2_with (first
    | (go_at_call 14; ((with_reducible refine zl.mono ?_); rintro e w1 ⟨⟨A,n,c,rfl⟩,K⟩; have K:=K.quiet ((Wider.refl w1).alloc (.cells #[.int .i64 tb,.string xk,.string xo,.int .i64 ln,.int .i64 pr,.int .i64 bk2,.slice A n c,.int .i64 idle,.int .i64 hard,.int .u64 ck,.bool tl] 26)); clear zl)))
   go_ret
   exact ⟨rfl,K⟩
theorem ActTAt.flat {w:World} {a:Addr} {y:ActT} (h:ActTAt w a y) (i:Nat) (v:Value) (hv:(entC y.x y.av)[i]? = some v):w.cell? ⟨a.block,a.off + 1 + i,none⟩ = some v:=by
 have e:(a.add 1).add i = ⟨a.block,a.off + 1 + i,none⟩:=by
  rw [addadd a 1 i (by decide)]
  unfold Addr.add
  rw [if_neg (by omega),Nat.add_assoc]
 rw [← e]
 exact h.ce i v hv
theorem rowY_slice {w:World} {E:TypeId} {k n:Nat} {v:Value} {xs:List Value} (h:w.ownsRow 0 E k v n xs) (hn:0 < n) :
 ∃ B c,v = .slice (some ⟨B,0,none⟩) n c ∧ ∀ j u,xs[j]? = some u → w.cell? ⟨B,j,none⟩ = some u:=by
 have hh:=h
 rcases h.2 with ⟨_,q2⟩ | ⟨g,cap,cur,rfl,hb,hg,r⟩
 · omega
 · refine ⟨g,cap,rfl,fun j u hu => ?_⟩
   have q:=hh.cells (g:=g) rfl j u hu
   rwa [Addr.add_lit,Nat.zero_add] at q
theorem cellsG_cons (g:GoneM) (l:List GoneM):cellsG (g :: l) = (entC g.e.x g.e.av).toList ++ [.int .i64 g.tag] ++ cellsG l:=rfl
theorem cellsG_at:∀ (l:List GoneM) (j:Nat) (g:GoneM),l[j]? = some g → (∀ i,i < 11 → (cellsG l)[j * 12 + i]? = (entC g.e.x g.e.av)[i]?) ∧ (cellsG l)[j * 12 + 11]? = some (.int .i64 g.tag)
 | [],j,g,h => by simp at h
 | y :: l,0,g,h => by
   obtain rfl:y = g:=by simpa using h
   refine ⟨fun i hi => ?_,?_⟩
   · rw [cellsG_cons,Nat.zero_mul,Nat.zero_add,List.getElem?_append_left (show i < 12 by omega),List.getElem?_append_left (show i < 11 from hi)]
     simp
   · rfl
 | y :: l,j + 1,g,h => by
   have h:l[j]? = some g:=by simpa using h
   obtain ⟨a,b⟩:=cellsG_at l j g h
   refine ⟨fun i hi => ?_,?_⟩
   · rw [cellsG_cons,List.getElem?_append_right (show 12 ≤ (j + 1) * 12 + i by omega)]
     show (cellsG l)[(j + 1) * 12 + i - 12]? = _
     rw [show (j + 1) * 12 + i - 12 = j * 12 + i by omega]
     exact a i hi
   · rw [cellsG_cons,List.getElem?_append_right (show 12 ≤ (j + 1) * 12 + 11 by omega)]
     show (cellsG l)[(j + 1) * 12 + 11 - 12]? = _
     rw [show (j + 1) * 12 + 11 - 12 = j * 12 + 11 by omega]
     exact b
structure GoneAt (w:World) (B j:Nat) (x:EntV) (tag:Int):Prop where
 ent:∃ A n cap,x.args.length = n ∧ ArgsAt w (.slice A n cap) x.args ∧ w.cell? ⟨B,j * 12,none⟩ = some (.int .i64 x.tb) ∧ w.cell? ⟨B,j * 12 + 1,none⟩ = some (.string x.key) ∧ w.cell? ⟨B,j * 12 + 2,none⟩ = some (.string x.oth) ∧ w.cell? ⟨B,j * 12 + 3,none⟩ = some (.int .i64 x.ln) ∧ w.cell? ⟨B,j * 12 + 4,none⟩ = some (.int .i64 x.pr) ∧ w.cell? ⟨B,j * 12 + 5,none⟩ = some (.int .i64 x.bk) ∧ w.cell? ⟨B,j * 12 + 6,none⟩ = some (.slice A n cap) ∧ w.cell? ⟨B,j * 12 + 7,none⟩ = some (.int .i64 x.idle) ∧ w.cell? ⟨B,j * 12 + 8,none⟩ = some (.int .i64 x.hard) ∧ w.cell? ⟨B,j * 12 + 9,none⟩ = some (.int .u64 x.ck) ∧ w.cell? ⟨B,j * 12 + 10,none⟩ = some (.bool x.tl)
 tag:w.cell? ⟨B,j * 12 + 11,none⟩ = some (.int .i64 tag)
theorem gones_at {V w:World} {L:List Thing} {B:Option Addr} {n c:Nat} {G:List GoneM} (H:Own V w L) (hm:∀ t ∈ gonesT (.slice B n c) n G,t ∈ L) (hn:G.length = n) {j:Nat} {x:EntV} {tag:Int} (hj:(G.map fun g => (g.e.x,g.tag))[j]? = some (x,tag)):∃ Bk,B = some ⟨Bk,0,none⟩ ∧ GoneAt w Bk j x tag:=by
 rw [List.getElem?_map] at hj
 cases q:G[j]? with
 | none => rw [q] at hj; cases hj
 | some g =>
   rw [q] at hj
   have hj:(g.e.x,g.tag) = (x,tag):=by simpa using hj
   obtain ⟨rfl,rfl⟩ : g.e.x = x ∧ g.tag = tag:=by simpa using hj
   have hjl:=(List.getElem?_eq_some_iff.1 q).1
   obtain ⟨Bk,cc,eB,hc⟩:=rowY_slice (H.holds _ (hm _ (.head _))) (by omega)
   injection eB with e1
   obtain ⟨a,b⟩:=cellsG_at G j g q
   have ar:ArgsAt w g.e.av g.e.x.args:=ArgsAt.row (H.holds (argT g.e) (hm _ (.tail _ (List.mem_map.2 ⟨g,List.mem_of_getElem? q,rfl⟩)))) rfl
   obtain ⟨A,nn,cap,ea,hnn,_⟩:=id ar
   have f:=fun i (hi:i < 11) v (hv:(entC g.e.x g.e.av)[i]? = some v) => hc (j * 12 + i) v ((a i hi).trans hv)
   rw [ea] at ar f
   exact ⟨Bk,e1,⟨⟨A,nn,cap,hnn,ar,f 0 (by decide) _ rfl,f 1 (by decide) _ rfl,f 2 (by decide) _ rfl,f 3 (by decide) _ rfl,f 4 (by decide) _ rfl,f 5 (by decide) _ rfl,f 6 (by decide) _ rfl,f 7 (by decide) _ rfl,f 8 (by decide) _ rfl,f 9 (by decide) _ rfl,f 10 (by decide) _ rfl⟩,hc _ _ b⟩⟩
theorem map_one {E:List HeldP} {g:HeldM} (h:E.map HeldP.m = [g]):∃ av pl,E = [⟨g.x,av,pl,g.put,g.found⟩]:=by
 match E,h with
 | [⟨x,av,pl,put,used⟩],h => cases h; exact ⟨av,pl,rfl⟩
theorem map_two {E:List HeldP} {g h:HeldM} (k:E.map HeldP.m = [g,h]):∃ av pl av2 pl2,E = [⟨g.x,av,pl,g.put,g.found⟩,⟨h.x,av2,pl2,h.put,h.found⟩]:=by
 match E,k with
 | [⟨x,av,pl,put,used⟩,⟨x2,av2,pl2,put2,used2⟩],k => cases k; exact ⟨av,pl,av2,pl2,rfl⟩
theorem one_at {p h:HeldP} {i:Nat} (k:[p][i]? = some h):h = p:=by
 have:=List.mem_of_getElem? k
 simpa using this
theorem look1 (ws:List Nat) (g:HeldM):LookO 1 ws [g] g.x.key (some g):=by
 intro E hE asc v b f
 obtain ⟨av,pl,rfl⟩:=map_one hE
 rcases f.f1 rfl with ⟨hb,_⟩ | ⟨_,no⟩
 · exact ⟨hb,fun i h hi _ => by rw [one_at hi]; rfl⟩
 · exact absurd rfl (no _ (.head _))
theorem look4 (ws:List Nat) (g:HeldM) (key:ByteArray) (y:∀ pl:Nat,(findR ws key [⟨g.x.key,g.x.oth,g.x.pr,(pl:Int)⟩]).isSome = true):LookO 4 ws [g] key (some g):=by
 intro E hE asc v b f
 obtain ⟨av,pl,rfl⟩:=map_one hE
 obtain ⟨_,hb⟩:=f.f4 rfl
 exact ⟨by rw [hb]; exact y pl,fun i h hi _ => by rw [one_at hi]; rfl⟩
theorem look4n (ws:List Nat) (g:HeldM) (key:ByteArray) (y:∀ pl:Nat,(findR ws key [⟨g.x.key,g.x.oth,g.x.pr,(pl:Int)⟩]).isSome = false):LookO 4 ws [g] key none:=by
 intro E hE asc v b f
 obtain ⟨av,pl,rfl⟩:=map_one hE
 obtain ⟨_,hb⟩:=f.f4 rfl
 show b = false
 rw [hb]; exact y pl
theorem look2 (ws:List Nat) (g h:HeldM) (key:ByteArray) (m2:(bitL key).take h.x.ln.toNat = bitsE h.x) (l:g.x.ln < h.x.ln):LookO 2 ws [g,h] key (some h):=by
 intro E hE asc v b f
 obtain ⟨av,pl,av2,pl2,rfl⟩:=map_two hE
 have lt:pl < pl2:=(List.pairwise_cons.1 asc).1 _ (.head _)
 rcases f.f2 rfl with ⟨hb,m,hm,_,hv,mx⟩ | ⟨_,no⟩
 · have mx2:h.x.ln ≤ m.1.ln:=mx (h.x,pl2) (.tail _ (.head _)) m2
   have ev:v = (pl2:Int):=by
    have hm:m ∈ [(g.x,pl),(h.x,pl2)]:=hm
    rcases List.mem_cons.1 hm with rfl | hm
    · have:h.x.ln ≤ g.x.ln:=mx2
      omega
    · obtain rfl:m = (h.x,pl2):=by simpa using hm
      exact hv
   refine ⟨hb,fun i p hp hq => ?_⟩
   have hp2:=List.mem_of_getElem? hp
   rcases List.mem_cons.1 hp2 with rfl | hp2
   · have:((pl:Nat):Int) = v:=hq
     omega
   · obtain rfl:p = _:=by simpa using hp2
     rfl
 · exact absurd m2 (no (h.x,pl2) (.tail _ (.head _)))
theorem look2a (ws:List Nat) (g h:HeldM) (key:ByteArray) (m1:(bitL key).take g.x.ln.toNat = bitsE g.x) (m2:(bitL key).take h.x.ln.toNat ≠ bitsE h.x):LookO 2 ws [g,h] key (some g):=by
 intro E hE asc v b f
 obtain ⟨av,pl,av2,pl2,rfl⟩:=map_two hE
 have lt:pl < pl2:=(List.pairwise_cons.1 asc).1 _ (.head _)
 rcases f.f2 rfl with ⟨hb,m,hm,mt,hv,mx⟩ | ⟨_,no⟩
 · have ev:v = (pl:Int):=by
    have hm:m ∈ [(g.x,pl),(h.x,pl2)]:=hm
    rcases List.mem_cons.1 hm with rfl | hm
    · exact hv
    · obtain rfl:m = (h.x,pl2):=by simpa using hm
      exact absurd mt m2
   refine ⟨hb,fun i p hp hq => ?_⟩
   have hp2:=List.mem_of_getElem? hp
   rcases List.mem_cons.1 hp2 with rfl | hp2
   · rfl
   · obtain rfl:p = _:=by simpa using hp2
     have:((pl2:Nat):Int) = v:=hq
     omega
 · exact absurd m1 (no (g.x,pl) (.head _))
theorem due_one {g:HeldM} {u d:Int} {is:Bool} (h:DueIs [g] d is) (k:∀ v,DueH g v ↔ v = u):d = u ∧ is = true:=by
 rcases h with ⟨_,_,h⟩ | ⟨rfl,⟨p,hp,hd⟩,_⟩
 · exact absurd ((k u).2 rfl) (h g (.head _) u)
 · obtain rfl:p = g:=by simpa using hp
   exact ⟨(k d).1 hd,rfl⟩
def Four (V w:World) (R:List Thing) (D:Nat) (sd:StM) (C:Nat) (sc:StM) (B:Nat) (sb:StM) (A:Nat) (sa:StM):Prop:=∃ TD TC TB TA,Own V w (TD ++ (TC ++ (TB ++ (TA ++ R)))) ∧ StoK 1 [1] TD D sd ∧ StoK 4 [1,1] TC C sc ∧ StoK 2 [1] TB B sb ∧ StoK 1 [1] TA A sa
section
variable {V w:World} {R:List Thing} {A B C D:Nat} {sa sb sc sd:StM}
theorem Four.d (h:Four V w R D sd C sc B sb A sa):∃ R',StoreK 1 [1] V w R' D sd ∧ ∀ w' s',StoreK 1 [1] V w' R' D s' → Four V w' R D s' C sc B sb A sa:=by
 obtain ⟨TD,TC,TB,TA,H,h1,h2,h3,h4⟩:=h
 exact ⟨_,⟨TD,H,h1⟩,fun w' s' ⟨T,H2,k⟩ => ⟨T,TC,TB,TA,H2,k,h2,h3,h4⟩⟩
theorem Four.c (h:Four V w R D sd C sc B sb A sa):∃ R',StoreK 4 [1,1] V w R' C sc ∧ ∀ w' s',StoreK 4 [1,1] V w' R' C s' → Four V w' R D sd C s' B sb A sa:=by
 obtain ⟨TD,TC,TB,TA,H,h1,h2,h3,h4⟩:=h
 exact ⟨_,⟨TC,H.perm (perm_mid TD TC _),h2⟩,fun w' s' ⟨T,H2,k⟩ => ⟨TD,T,TB,TA,H2.perm (perm_mid T TD _),h1,k,h3,h4⟩⟩
theorem Four.b (h:Four V w R D sd C sc B sb A sa):∃ R',StoreK 2 [1] V w R' B sb ∧ ∀ w' s',StoreK 2 [1] V w' R' B s' → Four V w' R D sd C sc B s' A sa:=by
 obtain ⟨TD,TC,TB,TA,H,h1,h2,h3,h4⟩:=h
 exact ⟨_,⟨TB,H.perm (((perm_mid TC TB _).append_left TD).trans (perm_mid TD TB _)),h3⟩,fun w' s' ⟨T,H2,k⟩ => ⟨TD,TC,T,TA,H2.perm ((perm_mid T TD _).trans ((perm_mid T TC _).append_left TD)),h1,h2,k,h4⟩⟩
theorem Four.a (h:Four V w R D sd C sc B sb A sa):∃ R',StoreK 1 [1] V w R' A sa ∧ ∀ w' s',StoreK 1 [1] V w' R' A s' → Four V w' R D sd C sc B sb A s':=by
 obtain ⟨TD,TC,TB,TA,H,h1,h2,h3,h4⟩:=h
 exact ⟨_,⟨TA,H.perm ((((perm_mid TB TA _).append_left TC).append_left TD).trans (((perm_mid TC TA _).append_left TD).trans (perm_mid TD TA _))),h4⟩,fun w' s' ⟨T,H2,k⟩ => ⟨TD,TC,TB,T,H2.perm ((perm_mid T TD _).trans (((perm_mid T TC _).append_left TD).trans (((perm_mid T TB _).append_left TC).append_left TD))),h1,h2,h3,k⟩⟩
theorem Four.gone (h:Four V w R D sd C sc B sb A sa):∃ R',StoreIs V w R' A sa ∧ ∀ w' M s',StoreIs V w' (M ++ R') A s' → ∃ R2,StoreK 1 [1] V w' (M ++ R2) D sd:=by
 obtain ⟨TD,TC,TB,TA,H,h1,h2,h3,h4⟩:=h
 refine ⟨_,StoreK.is ⟨TA,H.perm ((((perm_mid TB TA _).append_left TC).append_left TD).trans (((perm_mid TC TA _).append_left TD).trans (perm_mid TD TA _))),h4⟩,fun w' M s' k => ⟨TC ++ (TB ++ R),TD,?_,h1⟩⟩
 exact k.rest.perm (perm_mid M TD _)
end
theorem okXA:(putX 1 ⟨#[97]⟩ ⟨#[]⟩ 0 1 0 10).Ok:=by
 constructor <;> first | decide +kernel | (intro x hx; cases hx)
theorem okXB1:(putX 1 ⟨#[192]⟩ ⟨#[]⟩ 2 1 0 0).Ok:=by
 constructor <;> first | decide +kernel | (intro x hx; cases hx)
theorem okXB2:(putX 1 ⟨#[192]⟩ ⟨#[]⟩ 8 2 0 0).Ok:=by
 constructor <;> first | decide +kernel | (intro x hx; cases hx)
theorem okXC:(putX 1 ⟨#[1,1]⟩ ⟨#[2,2]⟩ 0 3 0 0).Ok:=by
 constructor <;> first | decide +kernel | (intro x hx; cases hx)
theorem okXD:(putX 1 ⟨#[97]⟩ ⟨#[]⟩ 0 1 4 0).Ok:=by
 constructor <;> first | decide +kernel | (intro x hx; cases hx)
theorem mayA:mayT (⟨1,kmOf 1 [1],9,[],0⟩ : StM) (putX 1 ⟨#[97]⟩ ⟨#[]⟩ 0 1 0 10) = true:=by decide +kernel
theorem mayB1:mayT (⟨1,kmOf 2 [1],9,[],0⟩ : StM) (putX 1 ⟨#[192]⟩ ⟨#[]⟩ 2 1 0 0) = true:=by decide +kernel
theorem mayC:mayT (⟨1,kmOf 4 [1,1],9,[],0⟩ : StM) (putX 1 ⟨#[1,1]⟩ ⟨#[2,2]⟩ 0 3 0 0) = true:=by decide +kernel
theorem mayD:mayT (⟨1,kmOf 1 [1],9,[],0⟩ : StM) (putX 1 ⟨#[97]⟩ ⟨#[]⟩ 0 1 4 0) = true:=by decide +kernel
theorem mayB2:mayT (⟨1,kmOf 2 [1],9,[(⟨putX 1 ⟨#[192]⟩ ⟨#[]⟩ 2 1 0 0,0,0⟩ : HeldM)],1⟩ : StM) (putX 1 ⟨#[192]⟩ ⟨#[]⟩ 8 2 0 0) = true:=by decide +kernel
theorem noB2:¬ hasE [(⟨putX 1 ⟨#[192]⟩ ⟨#[]⟩ 2 1 0 0,0,0⟩ : HeldM)] (putX 1 ⟨#[192]⟩ ⟨#[]⟩ 8 2 0 0):=by decide +kernel
theorem no_has (x:EntV):¬ hasE [] x:=fun ⟨h,hh,_⟩ => by cases hh
theorem outA14:outT (clampT 14) [(⟨putX 1 ⟨#[97]⟩ ⟨#[]⟩ 0 1 0 10,5,5⟩ : HeldM)] = []:=by decide +kernel
theorem outA15:outT (clampT 15) [(⟨putX 1 ⟨#[97]⟩ ⟨#[]⟩ 0 1 0 10,5,5⟩ : HeldM)] = [(putX 1 ⟨#[97]⟩ ⟨#[]⟩ 0 1 0 10,1)]:=by rfl
theorem dueA (v:Int):DueH (⟨putX 1 ⟨#[97]⟩ ⟨#[]⟩ 0 1 0 10,5,5⟩ : HeldM) v ↔ v = 15:=by
 unfold DueH
 show (0 < (10:Int) ∧ v = 5 + 10) ∨ (0 < (0:Int) ∧ v = 5 + 0) ↔ v = 15
 omega
theorem dueD (v:Int):DueH (⟨putX 1 ⟨#[97]⟩ ⟨#[]⟩ 0 1 4 0,5,7⟩ : HeldM) v ↔ v = 11:=by
 unfold DueH
 show (0 < (0:Int) ∧ v = 5 + 0) ∨ (0 < (4:Int) ∧ v = 7 + 4) ↔ v = 11
 omega
theorem lookB:LookO 2 [1] [(⟨putX 1 ⟨#[192]⟩ ⟨#[]⟩ 2 1 0 0,0,0⟩ : HeldM),(⟨putX 1 ⟨#[192]⟩ ⟨#[]⟩ 8 2 0 0,0,0⟩ : HeldM)] ⟨#[192]⟩ (some (⟨putX 1 ⟨#[192]⟩ ⟨#[]⟩ 8 2 0 0,0,0⟩ : HeldM)):=look2 _ _ _ _ (by decide +kernel) (by decide)
theorem lookB1:LookO 2 [1] [(⟨putX 1 ⟨#[192]⟩ ⟨#[]⟩ 2 1 0 0,0,0⟩ : HeldM),(⟨putX 1 ⟨#[192]⟩ ⟨#[]⟩ 8 2 0 0,0,0⟩ : HeldM)] ⟨#[193]⟩ (some (⟨putX 1 ⟨#[192]⟩ ⟨#[]⟩ 2 1 0 0,0,0⟩ : HeldM)):=look2a _ _ _ _ (by decide +kernel) (by decide +kernel)
theorem lookC:LookO 4 [1,1] [(⟨putX 1 ⟨#[1,1]⟩ ⟨#[2,2]⟩ 0 3 0 0,0,0⟩ : HeldM)] ⟨#[1,2]⟩ (some (⟨putX 1 ⟨#[1,1]⟩ ⟨#[2,2]⟩ 0 3 0 0,0,0⟩ : HeldM)):=look4 _ _ _ fun pl => by rfl
theorem lookCn:LookO 4 [1,1] [(⟨putX 1 ⟨#[1,1]⟩ ⟨#[2,2]⟩ 0 3 0 0,0,0⟩ : HeldM)] ⟨#[1,3]⟩ none:=look4n _ _ _ fun pl => by rfl
abbrev sA0:StM:=(⟨1,kmOf 1 [1],9,[],0⟩ : StM)
abbrev sA1:StM:=(⟨1,kmOf 1 [1],9,[(⟨putX 1 ⟨#[97]⟩ ⟨#[]⟩ 0 1 0 10,5,5⟩ : HeldM)],1⟩ : StM)
abbrev sB0:StM:=(⟨1,kmOf 2 [1],9,[],0⟩ : StM)
abbrev sB1:StM:=(⟨1,kmOf 2 [1],9,[(⟨putX 1 ⟨#[192]⟩ ⟨#[]⟩ 2 1 0 0,0,0⟩ : HeldM)],1⟩ : StM)
abbrev sB2:StM:=(⟨1,kmOf 2 [1],9,[(⟨putX 1 ⟨#[192]⟩ ⟨#[]⟩ 2 1 0 0,0,0⟩ : HeldM),(⟨putX 1 ⟨#[192]⟩ ⟨#[]⟩ 8 2 0 0,0,0⟩ : HeldM)],2⟩ : StM)
abbrev sC0:StM:=(⟨1,kmOf 4 [1,1],9,[],0⟩ : StM)
abbrev sC1:StM:=(⟨1,kmOf 4 [1,1],9,[(⟨putX 1 ⟨#[1,1]⟩ ⟨#[2,2]⟩ 0 3 0 0,0,0⟩ : HeldM)],1⟩ : StM)
abbrev sD0:StM:=(⟨1,kmOf 1 [1],9,[],0⟩ : StM)
abbrev sD1:StM:=(⟨1,kmOf 1 [1],9,[(⟨putX 1 ⟨#[97]⟩ ⟨#[]⟩ 0 1 4 0,5,5⟩ : HeldM)],1⟩ : StM)
abbrev sD2:StM:=(⟨1,kmOf 1 [1],9,[(⟨putX 1 ⟨#[97]⟩ ⟨#[]⟩ 0 1 4 0,5,7⟩ : HeldM)],1⟩ : StM)
theorem stA1:({ sA0 with L:=sA0.L ++ [⟨putX 1 ⟨#[97]⟩ ⟨#[]⟩ 0 1 0 10,clampT 5,clampT 5⟩],n:=sA0.n + 1 } : StM) = sA1:=by rfl
theorem stB1:({ sB0 with L:=sB0.L ++ [⟨putX 1 ⟨#[192]⟩ ⟨#[]⟩ 2 1 0 0,clampT 0,clampT 0⟩],n:=sB0.n + 1 } : StM) = sB1:=by rfl
theorem stB2:({ sB1 with L:=sB1.L ++ [⟨putX 1 ⟨#[192]⟩ ⟨#[]⟩ 8 2 0 0,clampT 0,clampT 0⟩],n:=sB1.n + 1 } : StM) = sB2:=by rfl
theorem stC1:({ sC0 with L:=sC0.L ++ [⟨putX 1 ⟨#[1,1]⟩ ⟨#[2,2]⟩ 0 3 0 0,clampT 0,clampT 0⟩],n:=sC0.n + 1 } : StM) = sC1:=by rfl
theorem stD1:({ sD0 with L:=sD0.L ++ [⟨putX 1 ⟨#[97]⟩ ⟨#[]⟩ 0 1 4 0,clampT 5,clampT 5⟩],n:=sD0.n + 1 } : StM) = sD1:=by rfl
theorem nums1 {V W:World} {R:List Thing} {B:Nat} (H:Own V W (blkT B #[.int .i64 1] 3 :: R)):NumsAt W (.slice (some ⟨B,0,none⟩) 1 1) [1]:=nums_blk (zs:=[1]) H (.head _) rfl
theorem nums2 {V W:World} {R:List Thing} {B:Nat} (H:Own V W (blkT B #[.int .i64 1,.int .i64 1] 3 :: R)):NumsAt W (.slice (some ⟨B,0,none⟩) 2 2) [1,1]:=nums_blk (zs:=[1,1]) H (.head _) rfl
section
variable {V w:World} {R:List Thing} {S:Nat}
theorem mtA:MayTab ⟨1,1,[0],9,0⟩ [1]:=by decide +kernel
theorem newA_c (H:Own V w R):Calls Tryz.prog 8 #[.int .u8 1,.int .i64 9,.slice (some ⟨w.heap.size,0,none⟩) 1 1] (w.alloc (.cells #[.int .i64 1] 3)) fun e w' => ∃ S T,e = .returned (.pointer (some ⟨S,0,none⟩)) ∧ Own V w' (T ++ R) ∧ StoK 1 [1] T S sA0:=by
 refine (of1_c (kind:=1) (room:=9) (zs:=[1]) (wc:=1) (H.blk #[.int .i64 1] 3) (fun W k => nums1 k) mtA).mono ?_
 rintro e w' ⟨S,rfl,K⟩
 obtain ⟨T,H2,q⟩ : StoreK 1 [1] V w' R S sA0:=K.less
 exact ⟨S,T,rfl,H2,q⟩
theorem mtB:MayTab ⟨1,2,[0],9,0⟩ [1]:=by decide +kernel
theorem newB_c (H:Own V w R):Calls Tryz.prog 8 #[.int .u8 2,.int .i64 9,.slice (some ⟨w.heap.size,0,none⟩) 1 1] (w.alloc (.cells #[.int .i64 1] 3)) fun e w' => ∃ S T,e = .returned (.pointer (some ⟨S,0,none⟩)) ∧ Own V w' (T ++ R) ∧ StoK 2 [1] T S sB0:=by
 refine (of1_c (kind:=2) (room:=9) (zs:=[1]) (wc:=1) (H.blk #[.int .i64 1] 3) (fun W k => nums1 k) mtB).mono ?_
 rintro e w' ⟨S,rfl,K⟩
 obtain ⟨T,H2,q⟩ : StoreK 2 [1] V w' R S sB0:=K.less
 exact ⟨S,T,rfl,H2,q⟩
theorem mtC:MayTab ⟨1,4,[0,0],9,0⟩ [1,1]:=by decide +kernel
theorem newC_c (H:Own V w R):Calls Tryz.prog 8 #[.int .u8 4,.int .i64 9,.slice (some ⟨w.heap.size,0,none⟩) 2 2] (w.alloc (.cells #[.int .i64 1,.int .i64 1] 3)) fun e w' => ∃ S T,e = .returned (.pointer (some ⟨S,0,none⟩)) ∧ Own V w' (T ++ R) ∧ StoK 4 [1,1] T S sC0:=by
 refine (of2_c (kind:=4) (room:=9) (zs:=[1,1]) (wc:=2) (H.blk #[.int .i64 1,.int .i64 1] 3) (fun W k => nums2 k) mtC).mono ?_
 rintro e w' ⟨S,rfl,K⟩
 obtain ⟨T,H2,q⟩ : StoreK 4 [1,1] V w' R S sC0:=K.less
 exact ⟨S,T,rfl,H2,q⟩
theorem step1_c (K:StoreK 1 [1] V w R S sA0):Calls Tryz.prog 28 #[.pointer (some ⟨S,0,none⟩),.agg #[.int .i64 0,.string ⟨#[97]⟩,.string ⟨#[]⟩,.int .i64 0,.int .i64 0,.int .i64 1,.slice none 0 0,.int .i64 0,.int .i64 10,.int .u64 0,.bool false],.int .i64 5] w fun e w' => e = .returned (.bool true) ∧ StoreK 1 [1] V w' R S sA1:=by
 rw [← stA1]
 exact puts_c (s:=sA0) K (by decide) ⟨#[97]⟩ ⟨#[]⟩ 0 1 0 10 5 okXA mayA (no_has _) (by decide)
theorem step2_c (K:StoreK 1 [1] V w R S sA1):Calls Tryz.prog 29 #[.pointer (some ⟨S,0,none⟩),.string ⟨#[97]⟩,.int .i64 1] w fun e w' => e = .returned (.bool true) ∧ StoreK 1 [1] V w' R S sA1 :=
 finds_c (s:=sA1) K (by decide) ⟨#[97]⟩ (by decide +kernel) (by decide +kernel) (look1 [1] (⟨putX 1 ⟨#[97]⟩ ⟨#[]⟩ 0 1 0 10,5,5⟩ : HeldM)) 1 (show (⟨putX 1 ⟨#[97]⟩ ⟨#[]⟩ 0 1 0 10,5,5⟩ : HeldM).x.bk = 1 ∧ (0:Int) < 1 from ⟨rfl,by decide⟩)
theorem step3_c (K:StoreK 2 [1] V w R S sB0):Calls Tryz.prog 28 #[.pointer (some ⟨S,0,none⟩),.agg #[.int .i64 0,.string ⟨#[192]⟩,.string ⟨#[]⟩,.int .i64 2,.int .i64 0,.int .i64 1,.slice none 0 0,.int .i64 0,.int .i64 0,.int .u64 0,.bool false],.int .i64 0] w fun e w' => e = .returned (.bool true) ∧ StoreK 2 [1] V w' R S sB1:=by
 rw [← stB1]
 exact puts_c (s:=sB0) K (by decide) ⟨#[192]⟩ ⟨#[]⟩ 2 1 0 0 0 okXB1 mayB1 (no_has _) (by decide)
theorem step4_c (K:StoreK 2 [1] V w R S sB1):Calls Tryz.prog 28 #[.pointer (some ⟨S,0,none⟩),.agg #[.int .i64 0,.string ⟨#[192]⟩,.string ⟨#[]⟩,.int .i64 8,.int .i64 0,.int .i64 2,.slice none 0 0,.int .i64 0,.int .i64 0,.int .u64 0,.bool false],.int .i64 0] w fun e w' => e = .returned (.bool true) ∧ StoreK 2 [1] V w' R S sB2:=by
 rw [← stB2]
 exact puts_c (s:=sB1) K (by decide) ⟨#[192]⟩ ⟨#[]⟩ 8 2 0 0 0 okXB2 mayB2 noB2 (by decide)
theorem step5_c (K:StoreK 2 [1] V w R S sB2):Calls Tryz.prog 29 #[.pointer (some ⟨S,0,none⟩),.string ⟨#[192]⟩,.int .i64 2] w fun e w' => e = .returned (.bool true) ∧ StoreK 2 [1] V w' R S sB2 :=
 finds_c (s:=sB2) K (by decide) ⟨#[192]⟩ (by decide +kernel) (by decide +kernel) lookB 2 (show (⟨putX 1 ⟨#[192]⟩ ⟨#[]⟩ 8 2 0 0,0,0⟩ : HeldM).x.bk = 2 ∧ (0:Int) < 2 from ⟨rfl,by decide⟩)
theorem step6_c (K:StoreK 2 [1] V w R S sB2):Calls Tryz.prog 29 #[.pointer (some ⟨S,0,none⟩),.string ⟨#[193]⟩,.int .i64 1] w fun e w' => e = .returned (.bool true) ∧ StoreK 2 [1] V w' R S sB2 :=
 finds_c (s:=sB2) K (by decide) ⟨#[193]⟩ (by decide +kernel) (by decide +kernel) lookB1 1 (show (⟨putX 1 ⟨#[192]⟩ ⟨#[]⟩ 2 1 0 0,0,0⟩ : HeldM).x.bk = 1 ∧ (0:Int) < 1 from ⟨rfl,by decide⟩)
theorem step7_c (K:StoreK 4 [1,1] V w R S sC0):Calls Tryz.prog 28 #[.pointer (some ⟨S,0,none⟩),.agg #[.int .i64 0,.string ⟨#[1,1]⟩,.string ⟨#[2,2]⟩,.int .i64 0,.int .i64 0,.int .i64 3,.slice none 0 0,.int .i64 0,.int .i64 0,.int .u64 0,.bool false],.int .i64 0] w fun e w' => e = .returned (.bool true) ∧ StoreK 4 [1,1] V w' R S sC1:=by
 rw [← stC1]
 exact puts_c (s:=sC0) K (by decide) ⟨#[1,1]⟩ ⟨#[2,2]⟩ 0 3 0 0 0 okXC mayC (no_has _) (by decide)
theorem step8_c (K:StoreK 4 [1,1] V w R S sC1):Calls Tryz.prog 29 #[.pointer (some ⟨S,0,none⟩),.string ⟨#[1,2]⟩,.int .i64 3] w fun e w' => e = .returned (.bool true) ∧ StoreK 4 [1,1] V w' R S sC1 :=
 finds_c (s:=sC1) K (by decide) ⟨#[1,2]⟩ (by decide +kernel) (by decide +kernel) lookC 3 (show (⟨putX 1 ⟨#[1,1]⟩ ⟨#[2,2]⟩ 0 3 0 0,0,0⟩ : HeldM).x.bk = 3 ∧ (0:Int) < 3 from ⟨rfl,by decide⟩)
theorem step9_c (K:StoreK 4 [1,1] V w R S sC1):Calls Tryz.prog 29 #[.pointer (some ⟨S,0,none⟩),.string ⟨#[1,3]⟩,.int .i64 0] w fun e w' => e = .returned (.bool true) ∧ StoreK 4 [1,1] V w' R S sC1 :=
 finds_c (s:=sC1) K (by decide) ⟨#[1,3]⟩ (by decide +kernel) (by decide +kernel) lookCn 0 rfl
theorem step10_c (K:StoreK 1 [1] V w R S sD0):Calls Tryz.prog 28 #[.pointer (some ⟨S,0,none⟩),.agg #[.int .i64 0,.string ⟨#[97]⟩,.string ⟨#[]⟩,.int .i64 0,.int .i64 0,.int .i64 1,.slice none 0 0,.int .i64 4,.int .i64 0,.int .u64 0,.bool false],.int .i64 5] w fun e w' => e = .returned (.bool true) ∧ StoreK 1 [1] V w' R S sD1:=by
 rw [← stD1]
 exact puts_c (s:=sD0) K (by decide) ⟨#[97]⟩ ⟨#[]⟩ 0 1 4 0 5 okXD mayD (no_has _) (by decide)
theorem dueA_c (K:StoreIs V w R S sA1):Calls Tryz.prog 15 #[.pointer (some ⟨S,0,none⟩)] w fun e w' => e = .returned (.tuple #[.int .i64 15,.bool true]) ∧ StoreIs V w' R S sA1:=by
 obtain ⟨d,i,hd,zd⟩:=ydue_c K
 obtain ⟨rfl,rfl⟩:=due_one hd dueA
 refine (zd w (Wider.refl w)).mono ?_
 rintro e w' ⟨rfl,g⟩
 exact ⟨rfl,K.quiet g⟩
theorem dueD_c (K:StoreK 1 [1] V w R S sD2):Calls Tryz.prog 15 #[.pointer (some ⟨S,0,none⟩)] w fun e w' => e = .returned (.tuple #[.int .i64 11,.bool true]) ∧ Own V w' R:=by
 obtain ⟨d,i,hd,zd⟩:=ydue_c K.is
 obtain ⟨rfl,rfl⟩:=due_one hd dueD
 refine (zd w (Wider.refl w)).mono ?_
 rintro e w' ⟨rfl,g⟩
 exact ⟨rfl,K.rest.quiet g⟩
theorem exp14_c (K:StoreIs V w R S sA1):Calls Tryz.prog 17 #[.pointer (some ⟨S,0,none⟩),.int .i64 14] w fun e w' => ∃ B c M,e = .returned (.slice B 0 c) ∧ StoreIs V w' (M ++ R) S sA1:=by
 refine (yexpire_c (s:=sA1) K (by decide) 14 (n:=0) (by rw [outA14]; rfl)).mono ?_
 rintro e w' ⟨B,c,G,rfl,hG,K2⟩
 exact ⟨B,c,_,rfl,K2⟩
def GoneC (V:World) (M:List Thing) (Bk:Nat):Prop:=∀ W L,Own V W L → (∀ t ∈ M,t ∈ L) → W.cell? ⟨Bk,11,none⟩ = some (.int .i64 1) ∧ W.cell? ⟨Bk,5,none⟩ = some (.int .i64 1)
theorem exp15_c {M1:List Thing} (K:StoreIs V w (M1 ++ R) S sA1):Calls Tryz.prog 17 #[.pointer (some ⟨S,0,none⟩),.int .i64 15] w fun e w' => ∃ Bk c M s2,e = .returned (.slice (some ⟨Bk,0,none⟩) 1 c) ∧ StoreIs V w' (M ++ R) S s2 ∧ GoneC V M Bk:=by
 refine (yexpire_c (s:=sA1) K (by decide) 15 (n:=1) (by rw [outA15]; rfl)).mono ?_
 rintro e w' ⟨B,c,G,rfl,hG,K2⟩
 rw [outA15] at hG
 rw [← List.append_assoc] at K2
 have gl:G.length = 1:=by have:=congrArg List.length hG; rw [List.length_map] at this; exact this
 have ga:∀ W L,Own V W L → (∀ t ∈ gonesT (.slice B 1 c) 1 G,t ∈ L) → ∃ Bk,B = some ⟨Bk,0,none⟩ ∧ GoneAt W Bk 0 (putX 1 ⟨#[97]⟩ ⟨#[]⟩ 0 1 0 10) 1:=fun W L H h => gones_at H h gl (by rw [hG]; rfl)
 obtain ⟨Bk,rfl,_⟩:=ga w' _ K2.rest (fun t ht => List.mem_append_left _ (List.mem_append_left _ ht))
 refine ⟨Bk,c,_,_,rfl,K2,fun W L H h => ?_⟩
 obtain ⟨Bk2,e2,a⟩:=ga W L H fun t ht => h t (List.mem_append_left _ ht)
 cases e2
 have tg:=a.tag
 obtain ⟨_,_,_,_,_,_,_,_,_,_,bk,_⟩:=a.ent
 exact ⟨tg,bk⟩
theorem findD_c (K:StoreK 1 [1] V w R S sD1):Calls Tryz.prog 13 #[.pointer (some ⟨S,0,none⟩),.string ⟨#[97]⟩,.int .i64 7] w fun e w' => (∃ v,e = .returned v) ∧ StoreK 1 [1] V w' R S sD2 :=
 kfind_c (s:=sD1) K (by decide) ⟨#[97]⟩ (by decide +kernel) (by decide +kernel) (g:=(⟨putX 1 ⟨#[97]⟩ ⟨#[]⟩ 0 1 4 0,5,5⟩ : HeldM)) rfl (look1 [1] (⟨putX 1 ⟨#[97]⟩ ⟨#[]⟩ 0 1 4 0,5,5⟩ : HeldM)) 7
theorem gone_read {M R:List Thing} {Bk:Nat} (H:Own V w (M ++ R)) (g:GoneC V M Bk):w.cell? ⟨Bk,11,none⟩ = some (.int .i64 1) ∧ w.cell? ⟨Bk,5,none⟩ = some (.int .i64 1):=g _ _ H fun t ht => List.mem_append_left _ ht
theorem four_mk {R TA TB TC TD:List Thing} {A B C D:Nat} {sa sb sc sd:StM} (H:Own V w (TD ++ (TC ++ (TB ++ (TA ++ R))))) (h1:StoK 1 [1] TD D sd) (h2:StoK 4 [1,1] TC C sc) (h3:StoK 2 [1] TB B sb) (h4:StoK 1 [1] TA A sa):Four V w R D sd C sc B sb A sa:=⟨TD,TC,TB,TA,H,h1,h2,h3,h4⟩
end
set_option maxRecDepth 20000 in
theorem yawake_c (w:World):Calls Tryz.prog 7 #[] w fun e w' => e = .returned (.bool true) ∧ Wider w w':=by
 have H0:Own w w []:=Own.nil (Wider.refl w)
 refine by_post fun Q hQ => ?_
 have HQ:=Lib.hid hQ
 clear hQ
 go_enter Tryz.func7,Tryz.ntmps7
 go_wp2_with (first
  | (go_at_call 8; ((with_reducible refine (newA_c H0).mono ?_); rintro e w1 ⟨SA,TA,rfl,HA,qA⟩; clear H0))
  | (go_at_call 8; ((with_reducible refine (newB_c HA).mono ?_); rintro e w2 ⟨SB,TB,rfl,HB,qB⟩; clear HA))
  | (go_at_call 8; ((with_reducible refine (newC_c HB).mono ?_); rintro e w3 ⟨SC,TC,rfl,HC,qC⟩; clear HB))
  | (go_at_call 8; ((with_reducible refine (newA_c HC).mono ?_); rintro e w4 ⟨SD,TD,rfl,HD,qD⟩; clear HC; have F:=four_mk HD qD qC qB qA; clear HD qD qC qB qA; obtain ⟨R1,K1,b1⟩:=F.a; clear F))
  | (go_at_call 28; ((with_reducible refine (step1_c K1).mono ?_); rintro e w5 ⟨rfl,K⟩; have F:=b1 _ _ K; clear K1 b1 K; obtain ⟨R2,K2,b2⟩:=F.a; clear F))
  | (go_at_call 29; ((with_reducible refine (step2_c K2).mono ?_); rintro e w6 ⟨rfl,K⟩; have F:=b2 _ _ K; clear K2 b2 K; obtain ⟨R3,K3,b3⟩:=F.b; clear F))
  | (go_at_call 28; ((with_reducible refine (step3_c K3).mono ?_); rintro e w7 ⟨rfl,K⟩; have F:=b3 _ _ K; clear K3 b3 K; obtain ⟨R4,K4,b4⟩:=F.b; clear F))
  | (go_at_call 28; ((with_reducible refine (step4_c K4).mono ?_); rintro e w8 ⟨rfl,K⟩; have F:=b4 _ _ K; clear K4 b4 K; obtain ⟨R5,K5,b5⟩:=F.b; clear F))
  | (go_at_call 29; ((with_reducible refine (step5_c K5).mono ?_); rintro e w9 ⟨rfl,K⟩; have F:=b5 _ _ K; clear K5 b5 K; obtain ⟨R6,K6,b6⟩:=F.b; clear F))
  | (go_at_call 29; ((with_reducible refine (step6_c K6).mono ?_); rintro e w10 ⟨rfl,K⟩; have F:=b6 _ _ K; clear K6 b6 K; obtain ⟨R7,K7,b7⟩:=F.c; clear F))
  | (go_at_call 28; ((with_reducible refine (step7_c K7).mono ?_); rintro e w11 ⟨rfl,K⟩; have F:=b7 _ _ K; clear K7 b7 K; obtain ⟨R8,K8,b8⟩:=F.c; clear F))
  | (go_at_call 29; ((with_reducible refine (step8_c K8).mono ?_); rintro e w12 ⟨rfl,K⟩; have F:=b8 _ _ K; clear K8 b8 K; obtain ⟨R9,K9,b9⟩:=F.c; clear F))
  | (go_at_call 29; ((with_reducible refine (step9_c K9).mono ?_); rintro e w13 ⟨rfl,K⟩; have F:=b9 _ _ K; clear K9 b9 K; obtain ⟨R10,K10,b10⟩:=F.d; clear F))
  | (go_at_call 28; ((with_reducible refine (step10_c K10).mono ?_); rintro e w14 ⟨rfl,K⟩; have F:=b10 _ _ K; clear K10 b10 K; obtain ⟨R11,K11,b11⟩:=F.gone; clear F))
  | (go_at_call 15; ((with_reducible refine (dueA_c K11).mono ?_); rintro e w15 ⟨rfl,K⟩; clear K11; have KX:=K; clear K))
  | (go_at_call 17; ((with_reducible refine (exp14_c KX).mono ?_); rintro e w16 ⟨B1,c1,M1,rfl,K⟩; clear KX; have KY:=K; clear K))
  | (go_at_call 17; ((with_reducible refine (exp15_c KY).mono ?_); rintro e w17 ⟨Bk,c2,M2,s9,rfl,K,gc⟩; obtain ⟨R9,KD⟩:=b11 _ _ _ K; clear KY K b11))
  | (go_at_call 13; ((with_reducible refine (findD_c KD).mono ?_); rintro e w18 ⟨⟨v9,rfl⟩,K⟩; have KE:=K; clear KD K))
  | (go_at_call 15; ((with_reducible refine (dueD_c KE).mono ?_); rintro e w19 ⟨rfl,H9⟩; clear KE; obtain ⟨tg,bk⟩:=gone_read H9 gc; have W9:=H9.wider; clear H9 gc)))
 exact HQ.out _ _ ⟨rfl,W9⟩
end Go.Proofs.YtbnpelciceblfaaGreat
