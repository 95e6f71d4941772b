/- ZCodeF ZUse -/
import Derived.Test.YtbnpelciceblfaaGreatQ26
namespace Go.Proofs.YtbnpelciceblfaaGreat
set_option linter.unusedVariables false
open Go.ChangeShapes Go.WideShapes Go.ChangeAt Go.RowKit Go.Joins
set_option maxHeartbeats 64000000
theorem StF.sliced {d:StoD} {Xs:List Thing} {s:StM} {V w:World} {L:List Thing} (f:StF d Xs s) (H:Own V w L) (hX:∀ t ∈ Xs,t ∈ L):Sliced d.E:=fun h hh => by
 obtain ⟨A,c,e⟩:=ownsRow_shape (H.holds _ (hX _ (f.args h hh)))
 exact ⟨A,_,c,e⟩
theorem StF.len {d:StoD} {Xs:List Thing} {s:StM} (f:StF d Xs s):d.E.length ≤ 256:=by
 have:=f.engf.len
 rwa [List.length_map] at this
theorem own_box {V w:World} {t:Thing} {A B R:List Thing} (H:Own V w (t :: (A ++ (B ++ R)))):Own V w (A ++ (B ++ (t :: R))):=by
 refine H.perm ?_
 have p:([t] ++ (A ++ (B ++ R))).Perm (A ++ ([t] ++ (B ++ R))):=perm_mid _ _ _
 have q:([t] ++ (B ++ R)).Perm (B ++ ([t] ++ R)):=perm_mid _ _ _
 exact p.trans (q.append_left A)
theorem mayT_is {s:StM} {k:Int} {ws:List Nat} (hkm:s.km = kmOf k ws) (x:EntV) {n su:Nat} (hn:x.args.length = n) (hsu:ws.sum = su) :
 decide ((x.tb = s.id ∧ (1 ≤ x.bk ∧ x.bk ≤ 65534) ∧ n ≤ 4 ∧ (0 ≤ x.idle ∧ x.idle ≤ 1099511627776) ∧ 0 ≤ x.hard ∧ x.hard ≤ 1099511627776) ∧ x.key.size = su ∧ FitK k ws x.key x.oth x.ln x.pr) = mayT s x:=by
 unfold mayT
 rw [hkm]
 unfold kmOf
 rw [← Bool.decide_and,← Bool.decide_and,hn,hsu]
 refine decide_eq_decide.2 ?_
 constructor
 · rintro ⟨⟨a,⟨b,c⟩,d,⟨e,f⟩,g,h⟩,i,j⟩
   exact ⟨⟨a,b,c,d,e,f,g,h⟩,i,j⟩
 · rintro ⟨⟨a,b,c,d,e,f,g,h⟩,i,j⟩
   exact ⟨⟨a,⟨b,c⟩,d,⟨e,f⟩,g,h⟩,i,j⟩
theorem mayT_fit {s:StM} {k:Int} {ws:List Nat} (hkm:s.km = kmOf k ws) {x:EntV} (h:mayT s x = true):FitX k ws x ∧ x.tb = s.id ∧ (0 ≤ x.idle ∧ x.idle ≤ 1099511627776) ∧ (0 ≤ x.hard ∧ x.hard ≤ 1099511627776):=by
 unfold mayT at h
 rw [hkm,Bool.and_eq_true,kmOf_true,decide_eq_true_eq] at h
 obtain ⟨⟨a,b,c,d,e,f,g,i⟩,j⟩:=h
 exact ⟨j,a,⟨e,f⟩,g,i⟩
theorem fit_small {k:Int} {ws:List Nat} (k1:1 ≤ k) (k4:k ≤ 4) (w32:ws.sum ≤ 32) {x:EntV} (h:FitX k ws x):x.key.size ≤ 32 ∧ x.oth.size ≤ 32:=by
 obtain ⟨h0,a,b,c,d⟩:=h
 refine ⟨by omega,?_⟩
 have:k = 1 ∨ k = 2 ∨ k = 3 ∨ k = 4:=by omega
 rcases this with e | e | e | e
 · rw [(a e).1]; decide
 · rw [(b e).1]; decide
 · have:=(c e).2.2.1
   have:x.key.size = x.oth.size:=this
   omega
 · have:=(d e).2.2.2.1
   have:x.oth.size = ws.sum:=this
   omega
set_option maxRecDepth 20000 in
theorem zmay_a {V w:World} {R Xs:List Thing} {S:Nat} {d:StoD} {s:StM} (H:Own V w (d.things S ++ (Xs ++ R))) (f:StF d Xs s) (x:EntV) {A:Option Addr} {n c:Nat} (hn:x.args.length = n) (ho:x.Ok) {r:Int} (hr:(if mayT s x = true then 0 else 3) = r) :
 Calls Tryz.prog 9 #[pS S,entV x (.slice A n c)] w fun e w' => e = .returned (.int .i64 r) ∧ Wider w w':=by
 obtain ⟨T,ev0,hev0⟩:=engA_some f.eng
 have zv:=fun (W:World) (g:Wider w W) => zvalid_a (w:=W) (S:=S) (id:=s.id) (su:=d.ws.sum) (ev:=d.ev) (by
  have c0:=blk_cell (H.quiet g).head 0 (v:=.int .i64 d.t.id) rfl
  rw [f.hid] at c0
  exact c0) (blk_cell (H.quiet g).head 5 (v:=.int .i64 (d.ws.sum:Int)) rfl) (blk_cell (H.quiet g).head 6 (v:=d.ev) rfl) hev0 f.eng f.w4 f.engf.w32 rfl (fun W2 g2 t ht => ((H.quiet g).quiet g2).holds t (List.mem_append_right _ (List.mem_append_left _ ht))) x (A:=A) (n:=n) (c:=c) hn ⟨ho.key,ho.oth⟩ (mayT_is f.hkm x hn rfl)
 have G:=(Wider.refl w).alloc (.cells #[.int .i64 x.tb,.string x.key,.string x.oth,.int .i64 x.ln,.int .i64 x.pr,.int .i64 x.bk,.slice A n c,.int .i64 x.idle,.int .i64 x.hard,.int .u64 x.ck,.bool x.tl] 26)
 have zv:=zv _ G
 obtain ⟨b,hb⟩ : ∃ b,mayT s x = b:=⟨_,rfl⟩
 rw [hb] at zv hr
 clear H f hn ho hev0 hb
 obtain ⟨tb,key,oth,ln,pr,bk,args,idle,hard,ck,tl⟩:=x
 show Calls Tryz.prog 9 #[.pointer (some ⟨S,0,none⟩),.agg #[.int .i64 tb,.string key,.string oth,.int .i64 ln,.int .i64 pr,.int .i64 bk,.slice A n c,.int .i64 idle,.int .i64 hard,.int .u64 ck,.bool tl]] w _
 have zv:Calls Tryz.prog 30 #[.pointer (some ⟨S,0,none⟩),.agg #[.int .i64 tb,.string key,.string oth,.int .i64 ln,.int .i64 pr,.int .i64 bk,.slice A n c,.int .i64 idle,.int .i64 hard,.int .u64 ck,.bool tl]] (w.alloc (.cells #[.int .i64 tb,.string key,.string oth,.int .i64 ln,.int .i64 pr,.int .i64 bk,.slice A n c,.int .i64 idle,.int .i64 hard,.int .u64 ck,.bool tl] 26)) fun e w' => e = .returned (.bool b) ∧ Wider _ w':=zv
 have G:Wider w (w.alloc (.cells #[.int .i64 tb,.string key,.string oth,.int .i64 ln,.int .i64 pr,.int .i64 bk,.slice A n c,.int .i64 idle,.int .i64 hard,.int .u64 ck,.bool tl] 26)):=G
 cases b with
 | true =>
   obtain rfl:(0:Int) = r:=hr
   go_enter Tryz.func9,Tryz.ntmps9
   go_wp2_with (first
    | (go_at_call 30; ((with_reducible refine zv.mono ?_); rintro e w1 ⟨rfl,g⟩; replace G:=G.trans g; clear zv g)))
   go_ret
   exact ⟨rfl,G⟩
 | false =>
   obtain rfl:(3:Int) = r:=hr
   go_enter Tryz.func9,Tryz.ntmps9
   go_wp2_with (first
    | (go_at_call 30; ((with_reducible refine zv.mono ?_); rintro e w1 ⟨rfl,g⟩; replace G:=G.trans g; clear zv g)))
   go_ret
   exact ⟨rfl,G⟩
theorem leaf_key6 {α β γ δ ε ζ:Type} {C P:α → β → γ → δ → ε → ζ → Prop} {G:Prop} (k:∀ w b c d e f,C w b c d e f → P w b c d e f) (g:Hid (∀ w b c d e f,C w b c d e f → P w b c d e f) → G):G:=g (Lib.hid k)
theorem newH_one (tb:Int) (key oth:ByteArray) (ln pr bk:Int) (A:Option Addr) (n c:Nat) (idle hard ck:Int) (tl:Bool) (p q:Int):∀ u ∈ ([.int .i64 tb,.string key,.string oth,.int .i64 ln,.int .i64 pr,.int .i64 bk,.slice A n c,.int .i64 idle,.int .i64 hard,.int .u64 ck,.bool tl,.int .i64 p,.int .i64 q,.int .i64 q] : List Value),u.oneCell' = true:=by
 intro u hu
 simp only [List.mem_cons,List.not_mem_nil,or_false] at hu
 rcases hu with rfl | rfl | rfl | rfl | rfl | rfl | rfl | rfl | rfl | rfl | rfl | rfl | rfl | rfl <;> rfl
theorem held_lies (w:World) (C:Array Value):(∀ a:Addr,some (⟨w.heap.size,0,none⟩ : Addr) = some a → ∀ j u,C.toList[j]? = some u → (w.alloc (.cells C 77)).cell? (a.add j) = some u):=fun a e j u hu => by
 cases e
 rw [Addr.add_lit,Nat.zero_add,World.cell?_alloc_new]
 simpa using hu
theorem own_unbox {V w:World} {t:Thing} {A B R:List Thing} (H:Own V w (A ++ (B ++ (t :: R)))):Own V w (A ++ (B ++ R)):=by
 have q:(B ++ (t :: R)).Perm (t :: (B ++ R)):=List.perm_middle
 have p:(A ++ (t :: (B ++ R))).Perm (t :: (A ++ (B ++ R))):=List.perm_middle
 exact (H.perm ((q.append_left A).trans p)).drop
theorem sto_put {V w:World} {R Xs Es4:List Thing} {S nE c9 n cI:Nat} {d:StoD} {E2:List HeldP} {CE:List Value} {X BI:Option Addr} {la tt now:Int} {box:Thing} {tb:Int} {key oth:ByteArray} {ln pr bk:Int} {args:List Int} {idle hard ck:Int} {tl:Bool} (K:Own V w (Es4 ++ (blkT S #[.int .i64 d.t.id,.int .u8 d.t.kind,d.kv,.int .i64 d.t.cap,.int .i64 d.t.miss,.int .i64 (d.ws.sum:Int),d.ev,.slice X (nE + 1) c9,.int .i64 la] 72 :: rowT 77 14 (.slice X (nE + 1) c9) (nE + 1) (CE ++ [.int .i64 tb,.string key,.string oth,.int .i64 ln,.int .i64 pr,.int .i64 bk,.slice BI n cI,.int .i64 idle,.int .i64 hard,.int .u64 ck,.bool tl,.int .i64 la,.int .i64 tt,.int .i64 tt]) :: rowT 24 1 (.slice BI n cI) args.length (u64s args) :: rowK d :: (Xs ++ (box :: R))))) (hla:((d.last + 1:Nat):Int) = la) (hCE:cellsHs E2 = CE) (hnE:E2.length = nE) (htt:clampT now = tt) :
 Own V w (({ d with hv:=.slice X (nE + 1) c9,last:=d.last + 1,E:=E2 ++ [⟨⟨tb,key,oth,ln,pr,bk,args,idle,hard,ck,tl⟩,.slice BI n cI,d.last + 1,clampT now,clampT now⟩],Es:=Es4 } : StoD).things S ++ ((argA ⟨tb,key,oth,ln,pr,bk,args,idle,hard,ck,tl⟩ (.slice BI n cI) :: Xs) ++ R)):=by
 subst hla htt hCE hnE
 have e:cellsHs (E2 ++ [(⟨⟨tb,key,oth,ln,pr,bk,args,idle,hard,ck,tl⟩,.slice BI n cI,d.last + 1,clampT now,clampT now⟩ : HeldP)]) = cellsHs E2 ++ [.int .i64 tb,.string key,.string oth,.int .i64 ln,.int .i64 pr,.int .i64 bk,.slice BI n cI,.int .i64 idle,.int .i64 hard,.int .u64 ck,.bool tl,.int .i64 ((d.last + 1:Nat):Int),.int .i64 (clampT now),.int .i64 (clampT now)]:=cellsHs_append _ _
 have l:(E2 ++ [(⟨⟨tb,key,oth,ln,pr,bk,args,idle,hard,ck,tl⟩,.slice BI n cI,d.last + 1,clampT now,clampT now⟩ : HeldP)]).length = E2.length + 1:=by rw [List.length_append]; rfl
 have K2:=own_unbox (A:=Es4 ++ [blkT S #[.int .i64 d.t.id,.int .u8 d.t.kind,d.kv,.int .i64 d.t.cap,.int .i64 d.t.miss,.int .i64 (d.ws.sum:Int),d.ev,.slice X (E2.length + 1) c9,.int .i64 ((d.last + 1:Nat):Int)] 72,rowT 77 14 (.slice X (E2.length + 1) c9) (E2.length + 1) (cellsHs E2 ++ [.int .i64 tb,.string key,.string oth,.int .i64 ln,.int .i64 pr,.int .i64 bk,.slice BI n cI,.int .i64 idle,.int .i64 hard,.int .u64 ck,.bool tl,.int .i64 ((d.last + 1:Nat):Int),.int .i64 (clampT now),.int .i64 (clampT now)]),rowT 24 1 (.slice BI n cI) args.length (u64s args),rowK d]) (by rw [List.append_assoc]; exact K)
 rw [← e,List.append_assoc] at K2
 show Own V w (blkT S #[.int .i64 d.t.id,.int .u8 d.t.kind,d.kv,.int .i64 d.t.cap,.int .i64 d.t.miss,.int .i64 (d.ws.sum:Int),d.ev,.slice X (E2.length + 1) c9,.int .i64 ((d.last + 1:Nat):Int)] 72 :: rowK d :: rowT 77 14 (.slice X (E2.length + 1) c9) (E2 ++ [(⟨⟨tb,key,oth,ln,pr,bk,args,idle,hard,ck,tl⟩,.slice BI n cI,d.last + 1,clampT now,clampT now⟩ : HeldP)]).length (cellsHs (E2 ++ [(⟨⟨tb,key,oth,ln,pr,bk,args,idle,hard,ck,tl⟩,.slice BI n cI,d.last + 1,clampT now,clampT now⟩ : HeldP)])) :: (Es4 ++ (rowT 24 1 (.slice BI n cI) args.length (u64s args) :: (Xs ++ R))))
 rw [l]
 refine K2.perm ((perm_mid Es4 _ _).trans ?_)
 refine List.Perm.cons _ ?_
 refine (List.perm_middle (l₁:=[_,_])).trans (List.Perm.cons _ (List.Perm.cons _ ?_))
 exact (List.perm_middle (l₁:=Es4) (l₂:=Xs ++ R)).symm
set_option maxRecDepth 20000 in
theorem zputN_a {V w:World} {R Xs:List Thing} {S:Nat} {d:StoD} {s:StM} (H:Own V w (d.things S ++ (Xs ++ R))) (f:StF d Xs s) (hN:s.n < 99990) (x:EntV) {A:Option Addr} {n c:Nat} (ha:∀ W,Own V W R → ArgsAt W (.slice A n c) x.args) (ho:x.Ok) (hm:mayT s x = true) (hno:∀ h ∈ d.E,¬ OneE h.x x) (hroom:d.E.length < s.cap) (now:Int) :
 Calls Tryz.prog 10 #[pS S,entV x (.slice A n c),.int .i64 now] w fun e w' => e = .returned (.int .i64 0) ∧ ∃ BI cI hv Es2,x.args.length = n ∧ Own V w' (({ d with hv:=hv,last:=d.last + 1,E:=d.E ++ [⟨x,.slice BI n cI,d.last + 1,clampT now,clampT now⟩],Es:=Es2 } : StoD).things S ++ ((argA x (.slice BI n cI) :: Xs) ++ R)) ∧ EngA d.t.kind d.ws d.ev Es2 (argA x (.slice BI n cI) :: Xs) ((d.E ++ [(⟨x,.slice BI n cI,d.last + 1,clampT now,clampT now⟩ : HeldP)]).map HeldP.kp) (s.n + 1):=by
 have hn:x.args.length = n:=by
  obtain ⟨_,_,_,e,l,_⟩:=ha w (own_rest (own_rest H))
  injection e with e1 e2 e3
  rw [l,e2]
 obtain ⟨hfx,htb,_,_⟩:=mayT_fit f.hkm hm
 obtain ⟨sk,so⟩:=fit_small f.k1 f.k4 f.engf.w32 hfx
 have n4:n ≤ 4:=by
  unfold mayT at hm
  rw [Bool.and_eq_true,decide_eq_true_eq] at hm
  rw [← hn]; exact hm.1.2.2.2.1
 have slc:=f.sliced H (fun t ht => List.mem_append_right _ (List.mem_append_left _ ht))
 have hlen:=f.len
 have hno2:∀ m ∈ d.E.map HeldP.kp,¬ OneK m.1 x:=fun m hm q => by
  obtain ⟨h,hh,rfl⟩:=List.mem_map.1 hm
  have:=mayT_fit f.hkm (f.good.may (HeldP.m h) (by rw [f.hL]; exact List.mem_map.2 ⟨h,hh,rfl⟩))
  exact hno h hh ((one_tb (this.2.1.trans htb.symm)).2 q)
 have hl2:(d.E.map HeldP.kp).length < 256:=by rw [List.length_map]; have:=f.good.c2; omega
 have hef:=f.engf
 have hidx:IndexH d.E x (-1):=.inl ⟨rfl,hno⟩
 have hll:=hlen
 have H0:=own_box (H.blk #[.int .i64 x.tb,.string x.key,.string x.oth,.int .i64 x.ln,.int .i64 x.pr,.int .i64 x.bk,.slice A n c,.int .i64 x.idle,.int .i64 x.hard,.int .u64 x.ck,.bool x.tl] 26)
 have g0:=(Wider.refl w).alloc (.cells #[.int .i64 x.tb,.string x.key,.string x.oth,.int .i64 x.ln,.int .i64 x.pr,.int .i64 x.bk,.slice A n c,.int .i64 x.idle,.int .i64 x.hard,.int .u64 x.ck,.bool x.tl] 26)
 have zo:=fun (R':List Thing) (W:World) (HW:Own V W R') (hr:Own V W R) => zown_c HW x (ha W hr) (by omega) (by omega) (by omega)
 obtain ⟨B0,hB0⟩ : ∃ B,w.heap.size = B:=⟨_,rfl⟩
 obtain ⟨W0,hW0⟩ : ∃ W,w.alloc (.cells #[.int .i64 x.tb,.string x.key,.string x.oth,.int .i64 x.ln,.int .i64 x.pr,.int .i64 x.bk,.slice A n c,.int .i64 x.idle,.int .i64 x.hard,.int .u64 x.ck,.bool x.tl] 26) = W:=⟨_,rfl⟩
 have HW0:=Lib.hid (And.intro hW0 hB0)
 rw [hW0,hB0] at H0
 rw [hW0] at g0
 have zm:=zmay_a H0 f x (A:=A) (n:=n) (c:=c) hn ho (r:=0) (by rw [if_pos hm])
 have zs:=fun (W:World) (g:Wider W0 W) => zsame_c (H0.quiet g) slc (by omega) x A n c hidx
 have zt:=ztick_c now
 have entC:=fun (L:List Thing) (W:World) (K:Own V W L) (m:blkT B0 #[.int .i64 x.tb,.string x.key,.string x.oth,.int .i64 x.ln,.int .i64 x.pr,.int .i64 x.bk,.slice A n c,.int .i64 x.idle,.int .i64 x.hard,.int .u64 x.ck,.bool x.tl] 26 ∈ L) (i:Nat) (v:Value) (hv:(#[.int .i64 x.tb,.string x.key,.string x.oth,.int .i64 x.ln,.int .i64 x.pr,.int .i64 x.bk,.slice A n c,.int .i64 x.idle,.int .i64 x.hard,.int .u64 x.ck,.bool x.tl] : Array Value)[i]? = some v) => blk_cell (K.holds _ m) i hv
 have hev0:=engA_some f.eng
 obtain ⟨la,hla⟩ : ∃ la:Int,((d.last + 1:Nat):Int) = la:=⟨_,rfl⟩
 have l1:IntKind.i64.wrap ((d.last:Int) + 1) = la:=by
  have:=f.last2
  rw [← hla]
  simp [IntKind.wrap,IntKind.bits,IntKind.signed]; omega
 have HLA:=Lib.hid hla
 clear hla
 have HF:=Lib.hid f
 have HHH:=Lib.hid (And.intro hfx (And.intro hno2 (And.intro hl2 (And.intro hef (And.intro hn (And.intro hN (And.intro hll (And.intro slc hlen))))))))
 obtain ⟨nE,hnE⟩ : ∃ n,d.E.length = n:=⟨_,rfl⟩
 obtain ⟨nD,hnD⟩ : ∃ n,d.E.length = n:=⟨_,rfl⟩
 have HNE:=Lib.hid (And.intro hnE hnD)
 have capF:((nD:Int) ≥ d.t.cap) = False:=by rw [f.hcap,← hnD]; simp; exact hroom
 have capG:¬ d.t.cap ≤ (nD:Int):=by rw [f.hcap,← hnD]; have:=hroom; omega
 clear H f hfx htb sk so slc hlen hno2 hl2 hef hidx ha ho hm hn hN hll hW0 hB0 hnE hnD n4 hno hroom
 have HENT:=Lib.hid entC
 clear entC
 obtain ⟨T,ev0,hev0⟩:=hev0
 have HEV:=Lib.hid hev0
 clear hev0
 obtain ⟨tb,key,oth,ln,pr,bk,args,idle,hard,ck,tl⟩:=x
 show Calls Tryz.prog 10 #[.pointer (some ⟨S,0,none⟩),.agg #[.int .i64 tb,.string key,.string oth,.int .i64 ln,.int .i64 pr,.int .i64 bk,.slice A n c,.int .i64 idle,.int .i64 hard,.int .u64 ck,.bool tl],.int .i64 now] w _
 have zm:Calls Tryz.prog 9 #[.pointer (some ⟨S,0,none⟩),.agg #[.int .i64 tb,.string key,.string oth,.int .i64 ln,.int .i64 pr,.int .i64 bk,.slice A n c,.int .i64 idle,.int .i64 hard,.int .u64 ck,.bool tl]] W0 fun e w' => e = .returned (.int .i64 0) ∧ Wider W0 w':=zm
 have zs:∀ W,Wider W0 W → Calls Tryz.prog 31 #[.pointer (some ⟨S,0,none⟩),.agg #[.int .i64 tb,.string key,.string oth,.int .i64 ln,.int .i64 pr,.int .i64 bk,.slice A n c,.int .i64 idle,.int .i64 hard,.int .u64 ck,.bool tl]] W fun e w' => e = .returned (.int .i64 (-1)) ∧ Wider W w':=zs
 have HZO:=Lib.hid zo
 have e0:∀ W,Wider W0 W → Ent11 W B0 tb key oth ln pr bk A n c idle hard ck tl:=fun W g => by
  have K:=H0.quiet g
  have e:=fun i v hv => HENT.out _ W K (List.mem_append_right _ (List.mem_append_right _ (.head _))) i v hv
  exact ⟨e 0 _ rfl,e 1 _ rfl,e 2 _ rfl,e 3 _ rfl,e 4 _ rfl,e 5 _ rfl,e 6 _ rfl,e 7 _ rfl,e 8 _ rfl,e 9 _ rfl,e 10 _ rfl⟩
 have HE0:=Lib.hid e0
 obtain ⟨x0,x1,x2,x3,x4,x5,x6,x7,x8,x9,x10⟩:=e0 W0 (Wider.refl _)
 clear zo e0
 have HW1:=HW0.out.1
 have HB1:=HW0.out.2
 go_enter Tryz.func10,Tryz.ntmps10
 go_upto_region 1 with (fail)
 try rw [HW1]
 try rw [HB1]
 clear HW1 HB1
 go_upto_region 5 with (first
  | (go_at_call 9; ((with_reducible refine zm.mono ?_); rintro e w1 ⟨rfl,g1⟩; obtain ⟨y0,y1,y2,y3,y4,y5,y6,y7,y8,y9,y10⟩:=HE0.out w1 g1; clear zm))
  | (go_at_call 31; ((with_reducible refine (zs _ g1).mono ?_); rintro e w2 ⟨rfl,g2⟩; clear zs)))
 have H2:=(H0.quiet g1).quiet g2
 obtain ⟨A9,cp9,ehv9,_⟩:=sto_row H2 HHH.out.2.2.2.2.2.2.2.1
 have u7:=blk_cell H2.head 7 (v:=d.hv) rfl
 have u3:=blk_cell H2.head 3 (v:=.int .i64 d.t.cap) rfl
 rw [ehv9,HNE.out.2] at u7
 go_quiet (fail)
 have K:=H2.quiet ((Wider.refl _).drewN nq)
 obtain ⟨A1,cp,ehv,_⟩:=sto_row K HHH.out.2.2.2.2.2.2.2.1
 have HE3:=Lib.hid (HF.out.eng.more (Ys:=Xs) (fun t h => h))
 obtain ⟨Es3,hEs3⟩ : ∃ Es,d.Es = Es:=⟨_,rfl⟩
 rw [hEs3] at HE3
 have G3:Wider W0 (World.drewN w2 nq):=(g1.trans g2).trans ((Wider.refl _).drewN nq)
 have G3w:Wider w (World.drewN w2 nq):=g0.trans G3
 obtain ⟨W3,hW3⟩ : ∃ W,World.drewN w2 nq = W:=⟨_,rfl⟩
 rw [hW3] at K G3 G3w ⊢
 have Kc:Own V W3 (blkT S #[.int .i64 d.t.id,.int .u8 d.t.kind,d.kv,.int .i64 d.t.cap,.int .i64 d.t.miss,.int .i64 (d.ws.sum:Int),d.ev,.slice A1 nE cp,.int .i64 (d.last:Int)] 72 :: rowK d :: rowT 77 14 (.slice A1 nE cp) nE (cellsHs d.E) :: (Es3 ++ (Xs ++ (blkT B0 #[.int .i64 tb,.string key,.string oth,.int .i64 ln,.int .i64 pr,.int .i64 bk,.slice A n c,.int .i64 idle,.int .i64 hard,.int .u64 ck,.bool tl] 26 :: R)))):=by
  have q:Own V W3 (blkT S #[.int .i64 d.t.id,.int .u8 d.t.kind,d.kv,.int .i64 d.t.cap,.int .i64 d.t.miss,.int .i64 (d.ws.sum:Int),d.ev,d.hv,.int .i64 (d.last:Int)] 72 :: rowK d :: rowT 77 14 d.hv d.E.length (cellsHs d.E) :: (d.Es ++ (Xs ++ (blkT B0 #[.int .i64 tb,.string key,.string oth,.int .i64 ln,.int .i64 pr,.int .i64 bk,.slice A n c,.int .i64 idle,.int .i64 hard,.int .u64 ck,.bool tl] 26 :: R)))):=K
  rw [ehv,hEs3,HNE.out.1] at q
  exact q
 clear u7 u3 ehv9 ehv K H2 hW3
 have c8:=blk_cell Kc.head 8 (v:=.int .i64 (d.last:Int)) rfl
 have f8:=blk_free Kc.head 8
 have Kd:=Kc.store 8 (.int .i64 la)
 go_upto_region 11 with (first
  | (go_at_call 33; ((with_reducible refine (zt _).mono ?_); rintro e w5 ⟨rfl,g5⟩; have K5:=Kd.quiet g5; clear zt)))
 have K5c:Own V w5 (blkT S #[.int .i64 d.t.id,.int .u8 d.t.kind,d.kv,.int .i64 d.t.cap,.int .i64 d.t.miss,.int .i64 (d.ws.sum:Int),d.ev,.slice A1 nE cp,.int .i64 la] 72 :: rowK d :: rowT 77 14 (.slice A1 nE cp) nE (cellsHs d.E) :: (Es3 ++ (Xs ++ (blkT B0 #[.int .i64 tb,.string key,.string oth,.int .i64 ln,.int .i64 pr,.int .i64 bk,.slice A n c,.int .i64 idle,.int .i64 hard,.int .u64 ck,.bool tl] 26 :: R)))):=K5
 have HH5:=Lib.hid (K5c.rot3.quiet (Wider.refl _).drew)
 obtain ⟨i0,hi,hz0,hz1,hz2⟩:=info_parts zinfoH
 have S1:Hid (nE + 1 ≤ maxLen):=Lib.hid (by have:=HHH.out.2.2.2.2.2.2.1; rw [HNE.out.1] at this; unfold maxLen; omega)
 have S2:Hid ((nE + 1) * 144 ≤ 140737488355328):=Lib.hid (by have:=HHH.out.2.2.2.2.2.2.1; rw [HNE.out.1] at this; omega)
 have OWN:Hid (∀ (R':List Thing) (W:World),Own V W R' → Own V W R → Calls Tryz.prog 34 #[.agg #[.int .i64 tb,.string key,.string oth,.int .i64 ln,.int .i64 pr,.int .i64 bk,.slice A n c,.int .i64 idle,.int .i64 hard,.int .u64 ck,.bool tl]] W fun e w' => ∃ B c',e = .returned (.agg #[.int .i64 tb,.string key,.string oth,.int .i64 ln,.int .i64 pr,.int .i64 bk,.slice B n c',.int .i64 idle,.int .i64 hard,.int .u64 ck,.bool tl]) ∧ args.length = n ∧ Own V w' (rowT 24 1 (.slice B n c') args.length (u64s args) :: R')):=Lib.hid HZO.out
 obtain ⟨tt,htt⟩ : ∃ tt,clampT now = tt:=⟨_,rfl⟩
 have HTT:=Lib.hid htt
 try rw [htt]
 obtain ⟨CE,hCE⟩ : ∃ CE,cellsHs d.E = CE:=⟨_,rfl⟩
 have HCE:=Lib.hid hCE
 rw [hCE] at HH5
 clear K5 K5c Kd Kc htt hCE HZO c8 f8
 refine' leaf_key6 (C:=fun (W:World) (X:Option Addr) (c9:Nat) (BI:Option Addr) (cI b1:Nat) => Own V W (blkT S #[.int .i64 d.t.id,.int .u8 d.t.kind,d.kv,.int .i64 d.t.cap,.int .i64 d.t.miss,.int .i64 (d.ws.sum:Int),d.ev,.slice X (nE + 1) c9,.int .i64 la] 72 :: rowT 77 14 (.slice X (nE + 1) c9) (nE + 1) (CE ++ [.int .i64 tb,.string key,.string oth,.int .i64 ln,.int .i64 pr,.int .i64 bk,.slice BI n cI,.int .i64 idle,.int .i64 hard,.int .u64 ck,.bool tl,.int .i64 la,.int .i64 tt,.int .i64 tt]) :: rowT 24 1 (.slice BI n cI) args.length (u64s args) :: rowK d :: (Es3 ++ (Xs ++ (blkT B0 #[.int .i64 tb,.string key,.string oth,.int .i64 ln,.int .i64 pr,.int .i64 bk,.slice A n c,.int .i64 idle,.int .i64 hard,.int .u64 ck,.bool tl] 26 :: R))))) ?key ?lea
 case lea =>
  intro KEY
  have H5:=HH5.out
  have zo:=fun (R':List Thing) (W:World) (HW:Own V W (blkT S #[.int .i64 d.t.id,.int .u8 d.t.kind,d.kv,.int .i64 d.t.cap,.int .i64 d.t.miss,.int .i64 (d.ws.sum:Int),d.ev,.slice A1 nE cp,.int .i64 la] 72 :: rowK d :: R')) => HW
  have c7:=blk_cell H5.second 7 (v:=.slice A1 nE cp) rfl
  have c8:=blk_cell H5.second 8 (v:=.int .i64 la) rfl
  have rR:Own V _ R:=(own_rest (own_rest (H5.drop.drop.drop))).drop
  have e:=fun i v hv => HENT.out _ _ H5 (.tail _ (.tail _ (.tail _ (List.mem_append_right _ (List.mem_append_right _ (.head _)))))) i v hv
  have b0:=e 0 _ rfl
  have b1:=e 1 _ rfl
  have b2:=e 2 _ rfl
  have b3:=e 3 _ rfl
  have b4:=e 4 _ rfl
  have b5:=e 5 _ rfl
  have b6:=e 6 _ rfl
  have b7:=e 7 _ rfl
  have b8:=e 8 _ rfl
  have b9:=e 9 _ rfl
  have b10:=e 10 _ rfl
  have zo:=OWN.out _ _ H5 rR
  clear e rR
  go_region_law (first
   | (go_simp; go_at_call 34; ((with_reducible refine zo.mono ?_); rintro e w6 ⟨BI,cI,rfl,_,H6⟩; have d7:=blk_cell H6.drop.second 7 (v:=.slice A1 nE cp) rfl; have d8:=blk_cell H6.drop.second 8 (v:=.int .i64 la) rfl; have H7:=H6.swap.quiet ((Wider.refl w6).alloc (.cells #[.int .i64 tb,.string key,.string oth,.int .i64 ln,.int .i64 pr,.int .i64 bk,.slice BI n cI,.int .i64 idle,.int .i64 hard,.int .u64 ck,.bool tl,.int .i64 la,.int .i64 tt,.int .i64 tt] 77)); have e7:=wkeep ((Wider.refl w6).alloc (.cells #[.int .i64 tb,.string key,.string oth,.int .i64 ln,.int .i64 pr,.int .i64 bk,.slice BI n cI,.int .i64 idle,.int .i64 hard,.int .u64 ck,.bool tl,.int .i64 la,.int .i64 tt,.int .i64 tt] 77)) d7; have cl:=held_lies w6 #[.int .i64 tb,.string key,.string oth,.int .i64 ln,.int .i64 pr,.int .i64 bk,.slice BI n cI,.int .i64 idle,.int .i64 hard,.int .u64 ck,.bool tl,.int .i64 la,.int .i64 tt,.int .i64 tt]; have ONE:=newH_one tb key oth ln pr bk BI n cI idle hard ck tl la tt; clear zo H6 H5 c7 c8 b0 b1 b2 b3 b4 b5 b6 b7 b8 b9 b10))
   | (refine step_append_thing rfl (.tmp 51) (.tmp 61) 70 rfl 77 i0 (.agg #[.int .i64 0,.string ⟨#[]⟩,.string ⟨#[]⟩,.int .i64 0,.int .i64 0,.int .i64 0,.slice none 0 0,.int .i64 0,.int .i64 0,.int .u64 0,.bool false,.int .i64 0,.int .i64 0,.int .i64 0]) 14 144 Tryz.underlying70 hi hz0 hz1 hz2 rfl (by decide) (.slice A1 nE cp) nE CE (by simp [Act.eval]) H7 (some ⟨w6.heap.size,0,none⟩) 1 1 [.int .i64 tb,.string key,.string oth,.int .i64 ln,.int .i64 pr,.int .i64 bk,.slice BI n cI,.int .i64 idle,.int .i64 hard,.int .u64 ck,.bool tl,.int .i64 la,.int .i64 tt,.int .i64 tt] (by simp [Act.eval]) rfl (fun e => by cases e) cl ONE S1.out S2.out rfl rfl ?_; intro X c9 w8 H8; have H9:=H8.rot3; have f7:=blk_free H9.head 7; have k7:=blk_cell H9.head 7 (v:=.slice A1 nE cp) rfl; have H10:=H9.store 7 (.slice X (nE + 1) c9); clear H8 H9 H7 cl ONE))
  all_goals
   obtain ⟨W9,hW9⟩ : ∃ W,w8.setCell ⟨S,7,none⟩ (.slice X (nE + 1) c9) = W:=⟨_,rfl⟩
   rw [hW9] at H10
   try rw [hW9]
   obtain ⟨bb,hbb⟩ : ∃ b,w6.heap.size = b:=⟨_,rfl⟩
   try rw [hbb]
   exact KEY.out _ _ _ _ _ bb H10
 case key =>
  intro W X c9 BI cI b1 K
  have he4:EngA d.t.kind d.ws d.ev Es3 (argA ⟨tb,key,oth,ln,pr,bk,args,idle,hard,ck,tl⟩ (.slice BI n cI) :: Xs) (d.E.map HeldP.kp) s.n:=HE3.out.more (fun t h => .tail _ h)
  have hput:=engA_put he4 HHH.out.2.2.2.2.2.1 HHH.out.2.2.2.1 HHH.out.1 HHH.out.2.1 HHH.out.2.2.1 (d.last + 1) (kk:=la) HLA.out
  have c6:=blk_cell K.head 6 (v:=d.ev) rfl
  have c8:=blk_cell K.head 8 (v:=.int .i64 la) rfl
  have e:=fun i v hv => HENT.out _ _ K (.tail _ (.tail _ (.tail _ (.tail _ (List.mem_append_right _ (List.mem_append_right _ (.head _))))))) i v hv
  have b0:=e 0 _ rfl
  have b1:=e 1 _ rfl
  have b2:=e 2 _ rfl
  have b3:=e 3 _ rfl
  have b4:=e 4 _ rfl
  have b5:=e 5 _ rfl
  have b6:=e 6 _ rfl
  have b7:=e 7 _ rfl
  have b8:=e 8 _ rfl
  have b9:=e 9 _ rfl
  have b10:=e 10 _ rfl
  have K2:=(K.perm (perm_mid [_,_,_,_] Es3 _)).quiet (Wider.refl W).drew
  clear e he4 K HH5
  rcases hput with ⟨p,hev,hput⟩ | ⟨Z,hev,hput⟩ | ⟨Z,hev,hput⟩ | ⟨Z,D,nw,cw,hev,hput⟩
  · have zp:∀ (R2:List Thing) (W:World),Own V W (Es3 ++ R2) → Calls Tryz.prog 81 #[.agg #[.pointer (some p)],.agg #[.int .i64 tb,.string key,.string oth,.int .i64 ln,.int .i64 pr,.int .i64 bk,.slice A n c,.int .i64 idle,.int .i64 hard,.int .u64 ck,.bool tl],.int .i64 la] W fun e w2 => e = .returned (.tuple #[]) ∧ ∃ Es2,Own V w2 (Es2 ++ R2) ∧ EngA d.t.kind d.ws d.ev Es2 (argA ⟨tb,key,oth,ln,pr,bk,args,idle,hard,ck,tl⟩ (.slice BI n cI) :: Xs) (d.E.map HeldP.kp ++ [(⟨tb,key,oth,ln,pr,bk,args,idle,hard,ck,tl⟩,d.last + 1)]) (s.n + 1):=fun R2 W HW => hput HW A n c
    rw [hev] at c6
    clear hput hev
    have hmet : ∀ w, (method 357 102 (.agg #[.pointer (some p)]) "turnout/table.put").run Tryz.prog w = .ok (81, .agg #[.pointer (some p)]) w := fun w => by kernel_rfl
    go_upto_region 12 with (fail)
    go_still_tail 11,(by kernel_rfl)
    change wpList _ _ _ _ _ (World.drew _)
    go_wp2_with (first
     | (go_at_call 81; ((with_reducible refine (zp _ _ K2).mono ?_); rintro e w9 ⟨rfl,Es4,K4,h4⟩; have HK4:=Lib.hid (And.intro K4 h4); clear zp K2 K4 h4)))
    go_ret
    refine ⟨rfl,BI,cI,.slice X (nE + 1) c9,Es4,HHH.out.2.2.2.2.1,sto_put HK4.out.1 HLA.out HCE.out HNE.out.1 HTT.out,?_⟩
    have e:=HK4.out.2
    rw [List.map_append]
    exact e
  · have zp:∀ (R2:List Thing) (W:World),Own V W (Es3 ++ R2) → Calls Tryz.prog 103 #[.agg #[.pointer (some ⟨Z,0,none⟩)],.agg #[.int .i64 tb,.string key,.string oth,.int .i64 ln,.int .i64 pr,.int .i64 bk,.slice A n c,.int .i64 idle,.int .i64 hard,.int .u64 ck,.bool tl],.int .i64 la] W fun e w2 => e = .returned (.tuple #[]) ∧ ∃ Es2,Own V w2 (Es2 ++ R2) ∧ EngA d.t.kind d.ws d.ev Es2 (argA ⟨tb,key,oth,ln,pr,bk,args,idle,hard,ck,tl⟩ (.slice BI n cI) :: Xs) (d.E.map HeldP.kp ++ [(⟨tb,key,oth,ln,pr,bk,args,idle,hard,ck,tl⟩,d.last + 1)]) (s.n + 1):=fun R2 W HW => hput HW A n c
    rw [hev] at c6
    clear hput hev
    have hmet : ∀ w, (method 357 106 (.agg #[.pointer (some ⟨Z, 0, none⟩)]) "turnout/table.put").run Tryz.prog w = .ok (103, .agg #[.pointer (some ⟨Z, 0, none⟩)]) w := fun w => by kernel_rfl
    go_upto_region 12 with (fail)
    go_still_tail 11,(by kernel_rfl)
    change wpList _ _ _ _ _ (World.drew _)
    go_wp2_with (first
     | (go_at_call 103; ((with_reducible refine (zp _ _ K2).mono ?_); rintro e w9 ⟨rfl,Es4,K4,h4⟩; have HK4:=Lib.hid (And.intro K4 h4); clear zp K2 K4 h4)))
    go_ret
    refine ⟨rfl,BI,cI,.slice X (nE + 1) c9,Es4,HHH.out.2.2.2.2.1,sto_put HK4.out.1 HLA.out HCE.out HNE.out.1 HTT.out,?_⟩
    have e:=HK4.out.2
    rw [List.map_append]
    exact e
  · have zp:∀ (R2:List Thing) (W:World),Own V W (Es3 ++ R2) → Calls Tryz.prog 130 #[.agg #[.pointer (some ⟨Z,0,none⟩)],.agg #[.int .i64 tb,.string key,.string oth,.int .i64 ln,.int .i64 pr,.int .i64 bk,.slice A n c,.int .i64 idle,.int .i64 hard,.int .u64 ck,.bool tl],.int .i64 la] W fun e w2 => e = .returned (.tuple #[]) ∧ ∃ Es2,Own V w2 (Es2 ++ R2) ∧ EngA d.t.kind d.ws d.ev Es2 (argA ⟨tb,key,oth,ln,pr,bk,args,idle,hard,ck,tl⟩ (.slice BI n cI) :: Xs) (d.E.map HeldP.kp ++ [(⟨tb,key,oth,ln,pr,bk,args,idle,hard,ck,tl⟩,d.last + 1)]) (s.n + 1):=fun R2 W HW => hput HW A n c
    rw [hev] at c6
    clear hput hev
    have hmet : ∀ w, (method 357 110 (.agg #[.pointer (some ⟨Z, 0, none⟩)]) "turnout/table.put").run Tryz.prog w = .ok (130, .agg #[.pointer (some ⟨Z, 0, none⟩)]) w := fun w => by kernel_rfl
    go_upto_region 12 with (fail)
    go_still_tail 11,(by kernel_rfl)
    change wpList _ _ _ _ _ (World.drew _)
    go_wp2_with (first
     | (go_at_call 130; ((with_reducible refine (zp _ _ K2).mono ?_); rintro e w9 ⟨rfl,Es4,K4,h4⟩; have HK4:=Lib.hid (And.intro K4 h4); clear zp K2 K4 h4)))
    go_ret
    refine ⟨rfl,BI,cI,.slice X (nE + 1) c9,Es4,HHH.out.2.2.2.2.1,sto_put HK4.out.1 HLA.out HCE.out HNE.out.1 HTT.out,?_⟩
    have e:=HK4.out.2
    rw [List.map_append]
    exact e
  · have zp:∀ (R2:List Thing) (W:World),Own V W (Es3 ++ R2) → Calls Tryz.prog 184 #[.agg #[.pointer (some ⟨Z,0,none⟩),.slice D nw cw],.agg #[.int .i64 tb,.string key,.string oth,.int .i64 ln,.int .i64 pr,.int .i64 bk,.slice A n c,.int .i64 idle,.int .i64 hard,.int .u64 ck,.bool tl],.int .i64 la] W fun e w2 => e = .returned (.tuple #[]) ∧ ∃ Es2,Own V w2 (Es2 ++ R2) ∧ EngA d.t.kind d.ws d.ev Es2 (argA ⟨tb,key,oth,ln,pr,bk,args,idle,hard,ck,tl⟩ (.slice BI n cI) :: Xs) (d.E.map HeldP.kp ++ [(⟨tb,key,oth,ln,pr,bk,args,idle,hard,ck,tl⟩,d.last + 1)]) (s.n + 1):=fun R2 W HW => hput HW A n c
    rw [hev] at c6
    clear hput hev
    have hmet : ∀ w, (method 357 115 (.agg #[.pointer (some ⟨Z, 0, none⟩), .slice D nw cw]) "turnout/table.put").run Tryz.prog w = .ok (184, .agg #[.pointer (some ⟨Z, 0, none⟩), .slice D nw cw]) w := fun w => by kernel_rfl
    go_upto_region 12 with (fail)
    go_still_tail 11,(by kernel_rfl)
    change wpList _ _ _ _ _ (World.drew _)
    go_wp2_with (first
     | (go_at_call 184; ((with_reducible refine (zp _ _ K2).mono ?_); rintro e w9 ⟨rfl,Es4,K4,h4⟩; have HK4:=Lib.hid (And.intro K4 h4); clear zp K2 K4 h4)))
    go_ret
    refine ⟨rfl,BI,cI,.slice X (nE + 1) c9,Es4,HHH.out.2.2.2.2.1,sto_put HK4.out.1 HLA.out HCE.out HNE.out.1 HTT.out,?_⟩
    have e:=HK4.out.2
    rw [List.map_append]
    exact e
theorem map_m (A B:List HeldP) (y:HeldP):(A ++ y :: B).map HeldP.m = A.map HeldP.m ++ HeldP.m y :: B.map HeldP.m:=by rw [List.map_append,List.map_cons]
theorem cut_but {A B:List HeldP} {y:HeldP} {cap:Nat} {x:EntV} (g:GoodL ((A ++ y :: B).map HeldP.m) cap) (o:OneE y.x x):(A ++ B).map HeldP.m = butE ((A ++ y :: B).map HeldP.m) x:=by
 have hn:((A ++ y :: B).map HeldP.m)[A.length]? = some (HeldP.m y):=by
  rw [map_m,List.getElem?_append_right (by rw [List.length_map]; exact Nat.le_refl _),List.length_map,Nat.sub_self]; rfl
 rw [butE_at g hn o,map_m,List.eraseIdx_append_of_length_le (by rw [List.length_map]; exact Nat.le_refl _),List.length_map,Nat.sub_self,List.map_append]
 rfl
theorem StF.cut {d:StoD} {Xs Es2:List Thing} {s:StM} {hv:Value} (f:StF d Xs s) {A B:List HeldP} {y:HeldP} (eE:d.E = A ++ y :: B) (he:EngA d.t.kind d.ws d.ev Es2 Xs ((A ++ B).map HeldP.kp) s.n):StF { d with hv:=hv,E:=A ++ B,Es:=Es2 } Xs { s with L:=(A ++ B).map HeldP.m } :=by
 have sub:∀ h,h ∈ A ++ B → h ∈ d.E:=fun h hh => by
  rw [eE]
  rcases List.mem_append.1 hh with k | k
  · exact List.mem_append_left _ k
  · exact List.mem_append_right _ (.tail _ k)
 have sl:(A ++ B).Sublist d.E:=by rw [eE]; exact List.Sublist.append_left (List.sublist_cons_self _ _) _
 have gl:=f.good.l
 rw [f.hL] at gl
 have inL:∀ h ∈ (A ++ B).map HeldP.m,h ∈ s.L:=fun h hh => by
  obtain ⟨p,hp,rfl⟩:=List.mem_map.1 hh
  rw [f.hL]; exact List.mem_map.2 ⟨p,sub p hp,rfl⟩
 have slm:=sl.map HeldP.m
 exact { f with
  eng:=he
  engf:=⟨fun m hm => by obtain ⟨p,hp,rfl⟩:=List.mem_map.1 hm; exact f.engf.fit _ (List.mem_map.2 ⟨p,sub p hp,rfl⟩),f.engf.nd.sublist (sl.map HeldP.kp),Nat.le_trans (sl.map HeldP.kp).length_le f.engf.len,f.engf.w32⟩
  args:=fun h hh => f.args h (sub h hh)
  asc:=f.asc.sublist sl
  last:=fun h hh => f.last h (sub h hh)
  hL:=rfl
  good:=⟨⟨gl.nd.sublist slm,Nat.le_trans slm.length_le gl.len,fun h hh => f.good.l.hard h (inL h hh),fun h hh => f.good.l.idle h (inL h hh),fun h hh => f.good.l.put h (inL h hh),fun h hh => f.good.l.found h (inL h hh)⟩,f.good.c1,f.good.c2,fun h hh => f.good.may h (inL h hh),fun h hh => f.good.small h (inL h hh),fun h hh => f.good.ok h (inL h hh)⟩ }
theorem StF.snoc {d:StoD} {Xs Es2:List Thing} {s:StM} {hv:Value} {E2:List HeldP} {x:EntV} {av:Value} {now:Int} (f:StF d Xs s) (sl:E2.Sublist d.E) (hL:E2.map HeldP.m = butE s.L x) (hm:mayT s x = true) (ho:x.Ok) (hc:hasE s.L x ∨ s.L.length < s.cap)
 (he:EngA d.t.kind d.ws d.ev Es2 (argA x av :: Xs) ((E2 ++ [(⟨x,av,d.last + 1,clampT now,clampT now⟩ : HeldP)]).map HeldP.kp) (s.n + 1)) :
 StF { d with hv:=hv,last:=d.last + 1,E:=E2 ++ [⟨x,av,d.last + 1,clampT now,clampT now⟩],Es:=Es2 } (argA x av :: Xs) (putS s x now):=by
 have eP:putS s x now = { s with L:=putE s.L x now,n:=s.n + 1 } :=by unfold putS; rw [if_pos ⟨hm,hc⟩]
 rw [eP]
 obtain ⟨hfx,htb,hi,hh⟩:=mayT_fit f.hkm hm
 obtain ⟨sk,so⟩:=fit_small f.k1 f.k4 f.engf.w32 hfx
 have gl:=f.good.l.put_ (x:=x) (now:=now) hh hi hc
 have each:∀ {P:HeldP → Prop},(∀ h ∈ d.E,P h) → P ⟨x,av,d.last + 1,clampT now,clampT now⟩ → ∀ h ∈ E2 ++ [(⟨x,av,d.last + 1,clampT now,clampT now⟩ : HeldP)],P h:=fun a p h hh => by
  rcases List.mem_append.1 hh with hh | hh
  · exact a h (sl.subset hh)
  · obtain rfl:h = _:=by simpa using hh
    exact p
 have eachL:∀ {P:HeldM → Prop},(∀ h ∈ s.L,P h) → P ⟨x,clampT now,clampT now⟩ → ∀ h ∈ putE s.L x now,P h:=fun a p h hh => by
  rcases List.mem_append.1 hh with hh | hh
  · exact a h (List.mem_filter.1 hh).1
  · obtain rfl:h = _:=by simpa using hh
    exact p
 have nn:∀ m ∈ E2.map HeldP.kp,¬ OneK m.1 x:=fun m hm q => by
  obtain ⟨p,hp,rfl⟩:=List.mem_map.1 hm
  have k:HeldP.m p ∈ butE s.L x:=by rw [← hL]; exact List.mem_map.2 ⟨p,hp,rfl⟩
  have k2:=of_decide_eq_true (List.mem_filter.1 k).2
  have tb2:=(mayT_fit f.hkm (f.good.may (HeldP.m p) (by rw [f.hL]; exact List.mem_map.2 ⟨p,sl.subset hp,rfl⟩))).2.1
  exact k2 ((one_tb (tb2.trans htb.symm)).2 q)
 have len:(putE s.L x now).length ≤ s.cap:=gl.len
 have len2:E2.length + 1 ≤ 256:=by
  have:=congrArg List.length hL
  rw [List.length_map] at this
  have h2:(putE s.L x now).length = (butE s.L x).length + 1:=by unfold putE; rw [List.length_append]; rfl
  have:=f.good.c2
  omega
 exact { f with
  eng:=he
  engf:=by
   have e:(E2 ++ [(⟨x,av,d.last + 1,clampT now,clampT now⟩ : HeldP)]).map HeldP.kp = E2.map HeldP.kp ++ [(x,d.last + 1)]:=by rw [List.map_append]; rfl
   show EngF _ _ ((E2 ++ [(⟨x,av,d.last + 1,clampT now,clampT now⟩ : HeldP)]).map HeldP.kp)
   rw [e]
   have q:EngF d.t.kind d.ws (E2.map HeldP.kp):=⟨fun m hm => by obtain ⟨p,hp,rfl⟩:=List.mem_map.1 hm; exact f.engf.fit _ (List.mem_map.2 ⟨p,sl.subset hp,rfl⟩),f.engf.nd.sublist (sl.map HeldP.kp),Nat.le_trans (sl.map HeldP.kp).length_le f.engf.len,f.engf.w32⟩
   exact q.put hfx nn (by rw [List.length_map]; omega)
  args:=each (P:=fun h => argA h.x h.av ∈ argA x av :: Xs) (fun h hh => .tail _ (f.args h hh)) (.head _)
  asc:=List.pairwise_append.2 ⟨f.asc.sublist sl,List.pairwise_singleton _ _,fun a ha b hb => by
   obtain rfl:b = _:=by simpa using hb
   have:=f.last a (sl.subset ha)
   show a.pl < d.last + 1; omega⟩
  last:=each (P:=fun h => h.pl ≤ d.last + 1) (fun h hh => by have:=f.last h hh; omega) (Nat.le_refl _)
  last2:=by show d.last + 1 ≤ s.n + 1; have:=f.last2; omega
  hL:=by
   show putE s.L x now = _
   rw [List.map_append,hL]; rfl
  good:=⟨gl,f.good.c1,f.good.c2,eachL (P:=fun h => mayT s h.x = true) f.good.may hm,eachL (P:=fun h => h.x.key.size ≤ 32 ∧ h.x.oth.size ≤ 32) f.good.small ⟨sk,so⟩,eachL (P:=fun h => h.x.Ok) f.good.ok ho⟩ }
end Go.Proofs.YtbnpelciceblfaaGreat
