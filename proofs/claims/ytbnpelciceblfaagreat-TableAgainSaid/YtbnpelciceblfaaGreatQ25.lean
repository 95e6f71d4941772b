/- ZEng ZOwn ZCodeC -/
import Derived.Test.YtbnpelciceblfaaGreatQ24
namespace Go.Proofs.YtbnpelciceblfaaGreat
set_option linter.unusedVariables false
open Go.ChangeShapes Go.WideShapes Go.ChangeAt Go.RowKit Go.Joins
set_option maxHeartbeats 64000000
theorem engA_put {k:Int} {ws:List Nat} {ev:Value} {Es Xs:List Thing} {M:List KP} {N:Nat} (h:EngA k ws ev Es Xs M N) (hN:N < 99990) (f:EngF k ws M) {x:EntV} (hx:FitX k ws x) (hn:∀ m ∈ M,¬ OneK m.1 x) (hl:M.length < 256) (pl:Nat) {kk:Int} (hk:(pl:Int) = kk) :
 (∃ (p:Addr),ev = .iface 102 (.agg #[.pointer (some p)]) ∧ ∀ {V W:World} {R2:List Thing},Own V W (Es ++ R2) → ∀ (A:Option Addr) (n c:Nat),Calls Tryz.prog 81 #[.agg #[.pointer (some p)],entV x (.slice A n c),.int .i64 kk] W fun e w2 => e = .returned (.tuple #[]) ∧ ∃ Es2,Own V w2 (Es2 ++ R2) ∧ EngA k ws ev Es2 Xs (M ++ [(x,pl)]) (N + 1)) ∨
 (∃ (Z:Nat),ev = .iface 106 (.agg #[.pointer (some ⟨Z,0,none⟩)]) ∧ ∀ {V W:World} {R2:List Thing},Own V W (Es ++ R2) → ∀ (A:Option Addr) (n c:Nat),Calls Tryz.prog 103 #[.agg #[.pointer (some ⟨Z,0,none⟩)],entV x (.slice A n c),.int .i64 kk] W fun e w2 => e = .returned (.tuple #[]) ∧ ∃ Es2,Own V w2 (Es2 ++ R2) ∧ EngA k ws ev Es2 Xs (M ++ [(x,pl)]) (N + 1)) ∨
 (∃ (Z:Nat),ev = .iface 110 (.agg #[.pointer (some ⟨Z,0,none⟩)]) ∧ ∀ {V W:World} {R2:List Thing},Own V W (Es ++ R2) → ∀ (A:Option Addr) (n c:Nat),Calls Tryz.prog 130 #[.agg #[.pointer (some ⟨Z,0,none⟩)],entV x (.slice A n c),.int .i64 kk] W fun e w2 => e = .returned (.tuple #[]) ∧ ∃ Es2,Own V w2 (Es2 ++ R2) ∧ EngA k ws ev Es2 Xs (M ++ [(x,pl)]) (N + 1)) ∨
 (∃ (Z:Nat) (D:Option Addr) (nw cw:Nat),ev = .iface 115 (.agg #[.pointer (some ⟨Z,0,none⟩),.slice D nw cw]) ∧ ∀ {V W:World} {R2:List Thing},Own V W (Es ++ R2) → ∀ (A:Option Addr) (n c:Nat),Calls Tryz.prog 184 #[.agg #[.pointer (some ⟨Z,0,none⟩),.slice D nw cw],entV x (.slice A n c),.int .i64 kk] W fun e w2 => e = .returned (.tuple #[]) ∧ ∃ Es2,Own V w2 (Es2 ++ R2) ∧ EngA k ws ev Es2 Xs (M ++ [(x,pl)]) (N + 1)):=by
 rcases h with ⟨rfl,p,L,F,rfl,rfl,h⟩ | ⟨rfl,Z,t,T,rfl,rfl,h⟩ | ⟨rfl,s,rfl,rfl,h⟩ | ⟨rfl,Z,wv,iv,D,cw,rfl,rfl,h,hm⟩
 · refine .inl ⟨p,rfl,fun {V W R2} H A n c => (zput1_c H h f hx hn hl A n c pl hk).mono ?_⟩
   rintro e w2 ⟨rfl,L2,F2,h2,H2⟩
   exact ⟨rfl,[mapT p L2 F2],H2,.inl ⟨rfl,p,L2,F2,rfl,rfl,h2⟩⟩
 · refine .inr (.inl ⟨Z,rfl,fun {V W R2} H A n c => (zput2_c H h f hx hn A n c pl hk).mono ?_⟩)
   rintro e w2 ⟨rfl,t2,T2,h2,H2⟩
   exact ⟨rfl,[treeT T2],H2,.inr (.inl ⟨rfl,Z,t2,T2,rfl,rfl,h2⟩)⟩
 · refine .inr (.inr (.inl ⟨s.A,rfl,fun {V W R2} H A n c => (zput3_c ⟨s,rfl,H,h⟩ hN f hx hn A n c pl hk).mono ?_⟩))
   rintro e w2 ⟨rfl,s2,e2,H2,h2⟩
   exact ⟨rfl,s2.things,H2,.inr (.inr (.inl ⟨rfl,s2,by rw [e2],rfl,h2⟩))⟩
 · refine .inr (.inr (.inr ⟨Z,D,ws.length,cw,rfl,fun {V W R2} H A n c => (zput4_c ⟨wv,iv,H,h⟩ hN f hx hn A n c pl hk).mono ?_⟩))
   rintro e w2 ⟨rfl,wv2,iv2,H2,h2⟩
   exact ⟨rfl,[setT Z wv2 iv2 ws,rowW wv2 ws,rowR iv2 ((M ++ [(x,pl)]).map toR)],H2,.inr (.inr (.inr ⟨rfl,Z,wv2,iv2,D,cw,rfl,rfl,h2,hm⟩))⟩
theorem engA_del {k:Int} {ws:List Nat} {ev:Value} {Es Xs:List Thing} {M:List KP} {N:Nat} (h:EngA k ws ev Es Xs M N) (hN:N < 99990) (f:EngF k ws M) {x:EntV} (hx:FitX k ws x) (hy:∃ m ∈ M,OneK m.1 x) :
 (∃ (p:Addr),ev = .iface 102 (.agg #[.pointer (some p)]) ∧ ∀ {V W:World} {R2:List Thing},Own V W (Es ++ R2) → ∀ (A:Option Addr) (n c:Nat),Calls Tryz.prog 78 #[.agg #[.pointer (some p)],entV x (.slice A n c)] W fun e w2 => e = .returned (.tuple #[]) ∧ ∃ Es2,Own V w2 (Es2 ++ R2) ∧ EngA k ws ev Es2 Xs (butM M x) N) ∨
 (∃ (Z:Nat),ev = .iface 106 (.agg #[.pointer (some ⟨Z,0,none⟩)]) ∧ ∀ {V W:World} {R2:List Thing},Own V W (Es ++ R2) → ∀ (A:Option Addr) (n c:Nat),Calls Tryz.prog 100 #[.agg #[.pointer (some ⟨Z,0,none⟩)],entV x (.slice A n c)] W fun e w2 => e = .returned (.tuple #[]) ∧ ∃ Es2,Own V w2 (Es2 ++ R2) ∧ EngA k ws ev Es2 Xs (butM M x) N) ∨
 (∃ (Z:Nat),ev = .iface 110 (.agg #[.pointer (some ⟨Z,0,none⟩)]) ∧ ∀ {V W:World} {R2:List Thing},Own V W (Es ++ R2) → ∀ (A:Option Addr) (n c:Nat),Calls Tryz.prog 127 #[.agg #[.pointer (some ⟨Z,0,none⟩)],entV x (.slice A n c)] W fun e w2 => e = .returned (.tuple #[]) ∧ ∃ Es2,Own V w2 (Es2 ++ R2) ∧ EngA k ws ev Es2 Xs (butM M x) N) ∨
 (∃ (Z:Nat) (D:Option Addr) (nw cw:Nat),ev = .iface 115 (.agg #[.pointer (some ⟨Z,0,none⟩),.slice D nw cw]) ∧ ∀ {V W:World} {R2:List Thing},Own V W (Es ++ R2) → ∀ (A:Option Addr) (n c:Nat),Calls Tryz.prog 181 #[.agg #[.pointer (some ⟨Z,0,none⟩),.slice D nw cw],entV x (.slice A n c)] W fun e w2 => e = .returned (.tuple #[]) ∧ ∃ Es2,Own V w2 (Es2 ++ R2) ∧ EngA k ws ev Es2 Xs (butM M x) N):=by
 rcases h with ⟨rfl,p,L,F,rfl,rfl,h⟩ | ⟨rfl,Z,t,T,rfl,rfl,h⟩ | ⟨rfl,s,rfl,rfl,h⟩ | ⟨rfl,Z,wv,iv,D,cw,rfl,rfl,h,hm⟩
 · refine .inl ⟨p,rfl,fun {V W R2} H A n c => (zdel1_c H h f hx hy A n c).mono ?_⟩
   rintro e w2 ⟨rfl,L2,F2,h2,H2⟩
   exact ⟨rfl,[mapT p L2 F2],H2,.inl ⟨rfl,p,L2,F2,rfl,rfl,h2⟩⟩
 · refine .inr (.inl ⟨Z,rfl,fun {V W R2} H A n c => (zdel2_c H h f hx hy A n c).mono ?_⟩)
   rintro e w2 ⟨rfl,t2,T2,h2,H2⟩
   exact ⟨rfl,[treeT T2],H2,.inr (.inl ⟨rfl,Z,t2,T2,rfl,rfl,h2⟩)⟩
 · refine .inr (.inr (.inl ⟨s.A,rfl,fun {V W R2} H A n c => (zdel3_c ⟨s,rfl,H,h⟩ hN f hx hy A n c).mono ?_⟩))
   rintro e w2 ⟨rfl,s2,e2,H2,h2⟩
   exact ⟨rfl,s2.things,H2,.inr (.inr (.inl ⟨rfl,s2,by rw [e2],rfl,h2⟩))⟩
 · refine .inr (.inr (.inr ⟨Z,D,ws.length,cw,rfl,fun {V W R2} H A n c => (zdel4_c ⟨wv,iv,H,h⟩ hN f hx hy A n c).mono ?_⟩))
   rintro e w2 ⟨rfl,wv2,iv2,H2,h2⟩
   exact ⟨rfl,[setT Z wv2 iv2 ws,rowW wv2 ws,rowR iv2 ((butM M x).map toR)],H2,.inr (.inr (.inr ⟨rfl,Z,wv2,iv2,D,cw,rfl,rfl,h2,hm⟩))⟩
structure FindK (k:Int) (ws:List Nat) (M:List KP) (key:ByteArray) (v:Int) (b:Bool):Prop where
 mem:Find3 M v b
 f1:k = 1 → Find1 M key v b
 f2:k = 2 → Find2 M key v b
 f4:k = 4 → Find4 ws M key v b
theorem find1_mem {M:List KP} {key:ByteArray} {v:Int} {b:Bool} (h:Find1 M key v b):Find3 M v b:=fun e => by
 rcases h with ⟨_,m,hm,_,q⟩ | ⟨h,_⟩
 · exact ⟨m,hm,q⟩
 · rw [e] at h; cases h
theorem find2_mem {M:List KP} {key:ByteArray} {v:Int} {b:Bool} (h:Find2 M key v b):Find3 M v b:=fun e => by
 rcases h with ⟨_,m,hm,_,q,_⟩ | ⟨h,_⟩
 · exact ⟨m,hm,q⟩
 · rw [e] at h; cases h
theorem engA_find {k:Int} {ws:List Nat} {ev:Value} {Es Xs:List Thing} {M:List KP} {N:Nat} (h:EngA k ws ev Es Xs M N) (hN:N < 99990) (f:EngF k ws M) {key:ByteArray} (hk:key.size = ws.sum) :
 (∃ (p:Addr),ev = .iface 102 (.agg #[.pointer (some p)]) ∧ ∀ {V W:World} {R2:List Thing},Own V W (Es ++ R2) → Calls Tryz.prog 79 #[.agg #[.pointer (some p)],.string key] W fun e w2 => ∃ v b,e = .returned (.tuple #[.int .i64 v,.bool b]) ∧ FindK k ws M key v b ∧ ∃ Es2,Own V w2 (Es2 ++ R2) ∧ EngA k ws ev Es2 Xs M N) ∨
 (∃ (Z:Nat),ev = .iface 106 (.agg #[.pointer (some ⟨Z,0,none⟩)]) ∧ ∀ {V W:World} {R2:List Thing},Own V W (Es ++ R2) → Calls Tryz.prog 101 #[.agg #[.pointer (some ⟨Z,0,none⟩)],.string key] W fun e w2 => ∃ v b,e = .returned (.tuple #[.int .i64 v,.bool b]) ∧ FindK k ws M key v b ∧ ∃ Es2,Own V w2 (Es2 ++ R2) ∧ EngA k ws ev Es2 Xs M N) ∨
 (∃ (Z:Nat),ev = .iface 110 (.agg #[.pointer (some ⟨Z,0,none⟩)]) ∧ ∀ {V W:World} {R2:List Thing},Own V W (Es ++ R2) → Calls Tryz.prog 128 #[.agg #[.pointer (some ⟨Z,0,none⟩)],.string key] W fun e w2 => ∃ v b,e = .returned (.tuple #[.int .i64 v,.bool b]) ∧ FindK k ws M key v b ∧ ∃ Es2,Own V w2 (Es2 ++ R2) ∧ EngA k ws ev Es2 Xs M N) ∨
 (∃ (Z:Nat) (D:Option Addr) (nw cw:Nat),ev = .iface 115 (.agg #[.pointer (some ⟨Z,0,none⟩),.slice D nw cw]) ∧ ∀ {V W:World} {R2:List Thing},Own V W (Es ++ R2) → Calls Tryz.prog 182 #[.agg #[.pointer (some ⟨Z,0,none⟩),.slice D nw cw],.string key] W fun e w2 => ∃ v b,e = .returned (.tuple #[.int .i64 v,.bool b]) ∧ FindK k ws M key v b ∧ ∃ Es2,Own V w2 (Es2 ++ R2) ∧ EngA k ws ev Es2 Xs M N):=by
 have hk2:key.size < 1000000:=by have:=f.w32; omega
 rcases h with ⟨rfl,p,L,F,rfl,rfl,h⟩ | ⟨rfl,Z,t,T,rfl,rfl,h⟩ | ⟨rfl,s,rfl,rfl,h⟩ | ⟨rfl,Z,wv,iv,D,cw,rfl,rfl,h,hm⟩
 · refine .inl ⟨p,rfl,fun {V W R2} H => (zfind1_c H.head h key hk2).mono ?_⟩
   rintro e w2 ⟨v,b,rfl,hf,g⟩
   exact ⟨v,b,rfl,⟨find1_mem hf,fun _ => hf,fun e => by omega,fun e => by omega⟩,[mapT p L F],H.quiet g,.inl ⟨rfl,p,L,F,rfl,rfl,h⟩⟩
 · refine .inr (.inl ⟨Z,rfl,fun {V W R2} H => (zfind2_c H h f hk).mono ?_⟩)
   rintro e w2 ⟨v,b,rfl,hf,g⟩
   exact ⟨v,b,rfl,⟨find2_mem hf,fun e => by omega,fun _ => hf,fun e => by omega⟩,[treeT T],H.quiet g,.inr (.inl ⟨rfl,Z,t,T,rfl,rfl,h⟩)⟩
 · refine .inr (.inr (.inl ⟨s.A,rfl,fun {V W R2} H => (zfind3_c ⟨s,rfl,H,h⟩ hN hk2).mono ?_⟩))
   rintro e w2 ⟨v,b,rfl,hf,s2,e2,H2,h2⟩
   exact ⟨v,b,rfl,⟨hf,fun e => by omega,fun e => by omega,fun e => by omega⟩,s2.things,H2,.inr (.inr (.inl ⟨rfl,s2,by rw [e2],rfl,h2⟩))⟩
 · refine .inr (.inr (.inr ⟨Z,D,ws.length,cw,rfl,fun {V W R2} H => (zfind4_c ⟨wv,iv,H,h⟩ hN key).mono ?_⟩))
   rintro e w2 ⟨v,b,rfl,hf,wv2,iv2,H2,h2⟩
   exact ⟨v,b,rfl,⟨find4_mem hf,fun e => by omega,fun e => by omega,fun _ => hf⟩,[setT Z wv2 iv2 ws,rowW wv2 ws,rowR iv2 (M.map toR)],H2,.inr (.inr (.inr ⟨rfl,Z,wv2,iv2,D,cw,rfl,rfl,h2,hm⟩))⟩
theorem engA_fits {k:Int} {ws:List Nat} {ev:Value} {Es Xs:List Thing} {M:List KP} {N:Nat} (h:EngA k ws ev Es Xs M N) (w4:ws.length ≤ 4) (w32:ws.sum ≤ 32) {x:EntV} (hk:x.key.size = ws.sum) (ho:x.oth.size ≤ 9223372036854775807) {r:Bool} (hr:decide (FitK k ws x.key x.oth x.ln x.pr) = r) :
 (∃ (p:Addr),ev = .iface 102 (.agg #[.pointer (some p)]) ∧ ∀ {W:World},(∀ t ∈ Xs,t.2 W) → ∀ (A:Option Addr) (n c:Nat),Calls Tryz.prog 80 #[.agg #[.pointer (some p)],entV x (.slice A n c)] W fun e w2 => e = .returned (.bool r) ∧ Wider W w2) ∨
 (∃ (Z:Nat),ev = .iface 106 (.agg #[.pointer (some ⟨Z,0,none⟩)]) ∧ ∀ {W:World},(∀ t ∈ Xs,t.2 W) → ∀ (A:Option Addr) (n c:Nat),Calls Tryz.prog 102 #[.agg #[.pointer (some ⟨Z,0,none⟩)],entV x (.slice A n c)] W fun e w2 => e = .returned (.bool r) ∧ Wider W w2) ∨
 (∃ (Z:Nat),ev = .iface 110 (.agg #[.pointer (some ⟨Z,0,none⟩)]) ∧ ∀ {W:World},(∀ t ∈ Xs,t.2 W) → ∀ (A:Option Addr) (n c:Nat),Calls Tryz.prog 129 #[.agg #[.pointer (some ⟨Z,0,none⟩)],entV x (.slice A n c)] W fun e w2 => e = .returned (.bool r) ∧ Wider W w2) ∨
 (∃ (Z:Nat) (D:Option Addr) (nw cw:Nat),ev = .iface 115 (.agg #[.pointer (some ⟨Z,0,none⟩),.slice D nw cw]) ∧ ∀ {W:World},(∀ t ∈ Xs,t.2 W) → ∀ (A:Option Addr) (n c:Nat),Calls Tryz.prog 183 #[.agg #[.pointer (some ⟨Z,0,none⟩),.slice D nw cw],entV x (.slice A n c)] W fun e w2 => e = .returned (.bool r) ∧ Wider W w2):=by
 rcases h with ⟨rfl,p,L,F,rfl,rfl,h⟩ | ⟨rfl,Z,t,T,rfl,rfl,h⟩ | ⟨rfl,s,rfl,rfl,h⟩ | ⟨rfl,Z,wv,iv,D,cw,rfl,rfl,h,hm⟩
 · refine .inl ⟨p,rfl,fun {W} hX A n c => zfits1_c p x A n c (by rw [← hr]; simp [FitK]) W⟩
 · refine .inr (.inl ⟨Z,rfl,fun {W} hX A n c => zfits2_c _ x (by omega) A n c (by rw [← hr]; simp [FitK]) W⟩)
 · refine .inr (.inr (.inl ⟨s.A,rfl,fun {W} hX A n c => zfits3_c _ x (by omega) A n c (by rw [← hr]; simp [FitK]) W⟩))
 · refine .inr (.inr (.inr ⟨Z,D,ws.length,cw,rfl,fun {W} hX A n c => zfits4_c Z (widthsAt (hX _ hm) rfl) rfl (by omega) (by omega) x hk A n c (by rw [← hr]; simp [FitK]) ho⟩))
theorem engA_some {k:Int} {ws:List Nat} {ev:Value} {Es Xs:List Thing} {M:List KP} {N:Nat} (h:EngA k ws ev Es Xs M N):∃ T v,ev = .iface T v:=by
 rcases h with ⟨rfl,p,L,F,rfl,rfl,h⟩ | ⟨rfl,Z,t,T,rfl,rfl,h⟩ | ⟨rfl,s,rfl,rfl,h⟩ | ⟨rfl,Z,wv,iv,D,cw,rfl,rfl,h,hm⟩
 all_goals exact ⟨_,_,rfl⟩
theorem leaf_key {α β γ:Type} {C P:α → β → γ → Prop} {G:Prop} (k:∀ w b c,C w b c → P w b c) (g:Hid (∀ w b c,C w b c → P w b c) → G):G:=g (Lib.hid k)
set_option maxRecDepth 20000 in
theorem zown_c {V w:World} {R:List Thing} (H:Own V w R) (x:EntV) {A:Option Addr} {n c:Nat} (ha:ArgsAt w (.slice A n c) x.args) (hk:x.key.size < 1000000) (ho:x.oth.size < 1000000) (hn:n < 99999) :
 Calls Tryz.prog 34 #[entV x (.slice A n c)] w fun e w' => ∃ B c',e = .returned (entV x (.slice B n c')) ∧ x.args.length = n ∧ Own V w' (argA x (.slice B n c') :: R):=by
 obtain ⟨A',n',c0',ee,hl,hnil,hcell⟩:=ha
 injection ee with e1 e2 e3
 subst e1 e2 e3
 have za:=fun (R':List Thing) (W:World) (HW:Own w W R') => zcloneU_c HW (A:=A) (n:=n) (c:=c) (xs:=u64s x.args) (by rw [u64s_length,hl]) (by omega) (fun e => by rw [← hl,hnil e]; rfl) (fun a e j u hj => by
  unfold u64s at hj
  rw [List.getElem?_map] at hj
  cases q:x.args[j]? with
  | none => rw [q] at hj; cases hj
  | some v =>
    rw [q] at hj
    obtain rfl:Value.int .u64 v = u:=by simpa using hj
    exact wkeep HW.wider (hcell a e j v q)) (u64s_one _)
 have zk:=vclone_c x.key hk
 have zm:=vclone_c x.oth ho
 have HL:Hid (x.args.length = n):=Lib.hid hl
 obtain ⟨us,hus⟩ : ∃ us,u64s x.args = us:=⟨_,rfl⟩
 rw [hus] at za
 have HUS:=Lib.hid hus
 clear hl hnil hcell hk ho hn hus
 obtain ⟨tb,key,oth,ln,pr,bk,args,idle,hard,ck,tl⟩:=x
 show Calls Tryz.prog 34 #[.agg #[.int .i64 tb,.string key,.string oth,.int .i64 ln,.int .i64 pr,.int .i64 bk,.slice A n c,.int .i64 idle,.int .i64 hard,.int .u64 ck,.bool tl]] w _
 replace zk:∀ w,Calls Tryz.prog 49 #[.string key] w fun e w' => e = .returned (.string key) ∧ Wider w w':=zk
 replace zm:∀ w,Calls Tryz.prog 49 #[.string oth] w fun e w' => e = .returned (.string oth) ∧ Wider w w':=zm
 have HH:=Lib.hid H
 have H1:Own w _ _:=((Own.nil (Wider.refl w)).blk #[.int .i64 tb,.string key,.string oth,.int .i64 ln,.int .i64 pr,.int .i64 bk,.slice A n c,.int .i64 idle,.int .i64 hard,.int .u64 ck,.bool tl] 26).blk #[.int .i64 0,.string ⟨#[]⟩,.string ⟨#[]⟩,.int .i64 0,.int .i64 0,.int .i64 0,.slice none 0 0,.int .i64 0,.int .i64 0,.int .u64 0,.bool false] 26
 have hz:(w.alloc (.cells #[.int .i64 tb,.string key,.string oth,.int .i64 ln,.int .i64 pr,.int .i64 bk,.slice A n c,.int .i64 idle,.int .i64 hard,.int .u64 ck,.bool tl] 26)).heap.size = w.heap.size + 1:=by simp
 rw [hz] at H1
 clear H
 go_enter Tryz.func34,Tryz.ntmps34
 go_upto_region 1 with (fail)
 obtain ⟨W,hW⟩ : ∃ W,((w.alloc (.cells #[.int .i64 tb,.string key,.string oth,.int .i64 ln,.int .i64 pr,.int .i64 bk,.slice A n c,.int .i64 idle,.int .i64 hard,.int .u64 ck,.bool tl] 26)).alloc (.cells #[.int .i64 0,.string ⟨#[]⟩,.string ⟨#[]⟩,.int .i64 0,.int .i64 0,.int .i64 0,.slice none 0 0,.int .i64 0,.int .i64 0,.int .u64 0,.bool false] 26)) = W:=⟨_,rfl⟩
 rw [hW] at H1
 try rw [hW]
 obtain ⟨B,hB⟩ : ∃ B,w.heap.size = B:=⟨_,rfl⟩
 rw [hB] at H1
 try rw [hB]
 have HQ:=Lib.hid ((H1.swap).quiet (Wider.refl _).drew)
 have HZ:=Lib.hid (And.intro zk zm)
 have HZA:=Lib.hid za
 clear zk zm za H1
 clear hW hz hB
 refine' leaf_key (C:=fun W BI cI => Own w W [blkT B #[.int .i64 tb,.string key,.string oth,.int .i64 ln,.int .i64 pr,.int .i64 bk,.slice A n c,.int .i64 idle,.int .i64 hard,.int .u64 ck,.bool tl] 26,blkT (B + 1) #[.int .i64 0,.string ⟨#[]⟩,.string ⟨#[]⟩,.int .i64 0,.int .i64 0,.int .i64 0,.slice none 0 0,.int .i64 0,.int .i64 0,.int .u64 0,.bool false] 26,rowT 24 1 (.slice BI n cI) n us]) ?key ?lea
 case lea =>
  intro KEY
  have H1:=HQ.out
  have c1:=blk_cell H1.head 1 (v:=.string key) rfl
  have c2:=blk_cell H1.head 2 (v:=.string oth) rfl
  have c6:=blk_cell H1.head 6 (v:=.slice A n c) rfl
  have d1:=c1
  have d2:=c2
  have d6:=c6
  have f1:=blk_free H1.head 1
  have f2:=blk_free H1.head 2
  have f6:=blk_free H1.head 6
  obtain ⟨zk,zm⟩:=HZ.out
  have za:=HZA.out
  go_region_law (first
   | (go_simp; go_at_call 49; ((with_reducible refine (zk _).mono ?_); rintro e w5 ⟨rfl,g⟩; replace H1:=H1.quiet g; clear g zk c1 c2 c6 f1 f2 f6; have c1:=blk_cell H1.head 1 (v:=.string key) rfl; have c2:=blk_cell H1.head 2 (v:=.string oth) rfl; have c6:=blk_cell H1.head 6 (v:=.slice A n c) rfl; have f1:=blk_free H1.head 1; have f2:=blk_free H1.head 2; have f6:=blk_free H1.head 6))
   | (go_simp; go_at_call 49; ((with_reducible refine (zm _).mono ?_); rintro e w6 ⟨rfl,g⟩; replace H1:=H1.quiet g; clear g zm c1 c2 c6 f1 f2 f6; have c1:=blk_cell H1.head 1 (v:=.string key) rfl; have c2:=blk_cell H1.head 2 (v:=.string oth) rfl; have c6:=blk_cell H1.head 6 (v:=.slice A n c) rfl; have f1:=blk_free H1.head 1; have f2:=blk_free H1.head 2; have f6:=blk_free H1.head 6))
   | (go_simp; go_at_call 50; ((with_reducible refine (za _ _ H1).mono ?_); rintro e w7 ⟨BI,cI,rfl,H2⟩; replace H1:=H2.rot3b; clear H2 za c1 c2 c6 f1 f2 f6; have c1:=blk_cell H1.head 1 (v:=.string key) rfl; have c2:=blk_cell H1.head 2 (v:=.string oth) rfl; have c6:=blk_cell H1.head 6 (v:=.slice A n c) rfl; have f1:=blk_free H1.head 1; have f2:=blk_free H1.head 2; have f6:=blk_free H1.head 6)))
  all_goals exact KEY.out _ _ _ H1
 case key =>
  intro w7 BI cI H1
  have H3:=((H1.store 1 (.string key)).store 2 (.string oth)).store 6 (.slice BI n cI)
  obtain ⟨W2,hW2⟩ : ∃ W2,((w7.setCell ⟨B,1,none⟩ (.string key)).setCell ⟨B,2,none⟩ (.string oth)).setCell ⟨B,6,none⟩ (.slice BI n cI) = W2:=⟨_,rfl⟩
  rw [hW2] at H3
  try rw [hW2]
  have H4:=(((((((((((H3.swap).store 0 (.int .i64 tb)).store 1 (.string key)).store 2 (.string oth)).store 3 (.int .i64 ln)).store 4 (.int .i64 pr)).store 5 (.int .i64 bk)).store 6 (.slice BI n cI)).store 7 (.int .i64 idle)).store 8 (.int .i64 hard)).store 9 (.int .u64 ck)).store 10 (.bool tl)
  have d0:=blk_cell H3.head 0 (v:=.int .i64 tb) rfl
  have d1:=blk_cell H3.head 1 (v:=.string key) rfl
  have d2:=blk_cell H3.head 2 (v:=.string oth) rfl
  have d3:=blk_cell H3.head 3 (v:=.int .i64 ln) rfl
  have d4:=blk_cell H3.head 4 (v:=.int .i64 pr) rfl
  have d5:=blk_cell H3.head 5 (v:=.int .i64 bk) rfl
  have d6:=blk_cell H3.head 6 (v:=.slice BI n cI) rfl
  have d7:=blk_cell H3.head 7 (v:=.int .i64 idle) rfl
  have d8:=blk_cell H3.head 8 (v:=.int .i64 hard) rfl
  have d9:=blk_cell H3.head 9 (v:=.int .u64 ck) rfl
  have d10:=blk_cell H3.head 10 (v:=.bool tl) rfl
  have e0:=blk_cell H3.second 0 (v:=.int .i64 0) rfl
  have k0:=blk_free H3.second 0
  have e1:=blk_cell H3.second 1 (v:=.string ⟨#[]⟩) rfl
  have k1:=blk_free H3.second 1
  have e2:=blk_cell H3.second 2 (v:=.string ⟨#[]⟩) rfl
  have k2:=blk_free H3.second 2
  have e3:=blk_cell H3.second 3 (v:=.int .i64 0) rfl
  have k3:=blk_free H3.second 3
  have e4:=blk_cell H3.second 4 (v:=.int .i64 0) rfl
  have k4:=blk_free H3.second 4
  have e5:=blk_cell H3.second 5 (v:=.int .i64 0) rfl
  have k5:=blk_free H3.second 5
  have e6:=blk_cell H3.second 6 (v:=.slice none 0 0) rfl
  have k6:=blk_free H3.second 6
  have e7:=blk_cell H3.second 7 (v:=.int .i64 0) rfl
  have k7:=blk_free H3.second 7
  have e8:=blk_cell H3.second 8 (v:=.int .i64 0) rfl
  have k8:=blk_free H3.second 8
  have e9:=blk_cell H3.second 9 (v:=.int .u64 0) rfl
  have k9:=blk_free H3.second 9
  have e10:=blk_cell H3.second 10 (v:=.bool false) rfl
  have k10:=blk_free H3.second 10
  have H5:=Lib.hid (HH.out.over H4)
  clear H1 H3 H4 hW2
  go_wp2
  simp [bodyPost,results,Tryz.results34,go_sem,e0,e1,e2,e3,e4,e5,e6,e7,e8,e9,e10]
  refine ⟨BI,cI,⟨rfl,rfl⟩,HL.out,?_⟩
  have H6:=H5.out
  have e:=HUS.out
  have e:u64s args = us:=e
  have l:=HL.out
  have l:args.length = n:=l
  show Own V _ (rowT 24 1 (.slice BI n cI) args.length (u64s args) :: R)
  rw [e,l]
  exact H6.drop.drop
section
variable {V w:World} {R Xs:List Thing} {S:Nat} {d:StoD}
theorem sto_row (H:Own V w (d.things S ++ R)) (s:Sliced d.E):∃ A c,d.hv = .slice A d.E.length c ∧ HeldsAt w A d.E:=by
 have h:=H.drop.second
 obtain ⟨A,c,e⟩:=ownsRow_shape h
 have h:w.ownsRow 0 77 14 d.hv d.E.length (cellsHs d.E):=h
 rw [e] at h
 exact ⟨A,c,e,heldsAt h rfl s⟩
set_option maxRecDepth 20000 in
theorem zsame_c (H:Own V w (d.things S ++ R)) (s:Sliced d.E) (hl:d.E.length < 1000000) (x:EntV) (A:Option Addr) (n c:Nat) {r:Int} (hr:IndexH d.E x r) :
 Calls Tryz.prog 31 #[pS S,entV x (.slice A n c)] w fun e w' => e = .returned (.int .i64 r) ∧ Wider w w':=by
 obtain ⟨A0,c0,ehv,hs⟩:=sto_row H s
 obtain ⟨nE,hnE⟩ : ∃ n,d.E.length = n:=⟨_,rfl⟩
 rw [hnE] at ehv hl
 have c7:=blk_cell H.head 7 (v:=d.hv) rfl
 rw [ehv] at c7
 have G:=(Wider.refl w).alloc (.cells #[.int .i64 x.tb,.string x.key,.string x.oth,.int .i64 x.ln,.int .i64 x.pr,.int .i64 x.bk,.slice A n c,.int .i64 x.idle,.int .i64 x.hard,.int .u64 x.ck,.bool x.tl] 26)
 have E0:=ent11_box w x.tb x.key x.oth x.ln x.pr x.bk A n c x.idle x.hard x.ck x.tl
 have zi:=zindex_c (c:=c0) (hs.on G) hnE hl x E0 hr
 have d7:=wkeep G c7
 clear H s hs ehv hr c7 hnE E0
 obtain ⟨tb,key,oth,ln,pr,bk,args,idle,hard,ck,tl⟩:=x
 simp only at zi d7 G
 show Calls Tryz.prog 31 #[.pointer (some ⟨S,0,none⟩),.agg #[.int .i64 tb,.string key,.string oth,.int .i64 ln,.int .i64 pr,.int .i64 bk,.slice A n c,.int .i64 idle,.int .i64 hard,.int .u64 ck,.bool tl]] w _
 go_enter Tryz.func31,Tryz.ntmps31
 go_wp2_with (first
  | (go_at_call 46; ((with_reducible refine zi.mono ?_); rintro e w1 ⟨rfl,g⟩; replace G:=G.trans g; clear zi g)))
 go_ret
 exact ⟨rfl,G⟩
end
theorem sto_front {V w:World} {R:List Thing} {S:Nat} {d:StoD} (H:Own V w (d.things S ++ R)):Own V w (d.Es ++ (blkT S (stoC d) 72 :: rowK d :: rowHd d :: R)):=H.perm (perm_mid [blkT S (stoC d) 72,rowK d,rowHd d] d.Es R)
theorem sto_back {V w:World} {R Es2:List Thing} {S:Nat} {d:StoD} (H:Own V w (Es2 ++ (blkT S (stoC d) 72 :: rowK d :: rowHd d :: R))):Own V w (({ d with Es:=Es2 } : StoD).things S ++ R):=H.perm (perm_mid Es2 [blkT S (stoC d) 72,rowK d,rowHd d] R)
theorem sto_mid {V w:World} {R Es2:List Thing} {S nE c0 B0:Nat} {d:StoD} (K:Own V w (Es2 ++ (blkT S (stoC d) 72 :: rowK d :: rowHd d :: R))) (h1:d.E.length = nE) (h2:d.hv = .slice (some ⟨B0,0,none⟩) nE c0) :
 Own V w (rowT 77 14 (.slice (some ⟨B0,0,none⟩) nE c0) nE (cellsHs d.E) :: blkT S #[.int .i64 d.t.id,.int .u8 d.t.kind,d.kv,.int .i64 d.t.cap,.int .i64 d.t.miss,.int .i64 (d.ws.sum:Int),d.ev,.slice (some ⟨B0,0,none⟩) nE c0,.int .i64 (d.last:Int)] 72 :: rowK d :: (Es2 ++ R)) ∧ w.cell? ⟨S,7,none⟩ = some (.slice (some ⟨B0,0,none⟩) nE c0):=by
 have K2:Own V w (blkT S (stoC d) 72 :: rowK d :: rowHd d :: (Es2 ++ R)):=sto_back K
 have e7:=blk_cell K2.head 7 (v:=d.hv) rfl
 rw [h2] at e7
 refine ⟨?_,e7⟩
 have q:Own V w (rowT 77 14 d.hv d.E.length (cellsHs d.E) :: blkT S #[.int .i64 d.t.id,.int .u8 d.t.kind,d.kv,.int .i64 d.t.cap,.int .i64 d.t.miss,.int .i64 (d.ws.sum:Int),d.ev,d.hv,.int .i64 (d.last:Int)] 72 :: rowK d :: (Es2 ++ R)):=K2.rot3
 rw [h1,h2] at q
 exact q
theorem sto_cut {V w:World} {R Xs Es2:List Thing} {S:Nat} {d:StoD} {N nE c0 B0 i:Nat} {M:List KP} {A B:List HeldP} {y:HeldP} {C:Array Value} (K:Own V w (blkT S (C.setIfInBounds 7 (.slice (some ⟨B0,0,none⟩) (nE - 1) c0)) 72 :: rowT 77 14 (.slice (some ⟨B0,0,none⟩) (nE - 1) c0) (nE - 1) ((cellsHs d.E).take (i * 14) ++ (cellsHs d.E).drop ((i + 1) * 14)) :: rowK d :: (Es2 ++ R))) (hx:d.E.length = nE ∧ d.hv = .slice (some ⟨B0,0,none⟩) nE c0 ∧ d.E = A ++ y :: B ∧ A.length = i) (he:EngA d.t.kind d.ws d.ev Es2 Xs M N) (hC:C = #[.int .i64 d.t.id,.int .u8 d.t.kind,d.kv,.int .i64 d.t.cap,.int .i64 d.t.miss,.int .i64 (d.ws.sum:Int),d.ev,.slice (some ⟨B0,0,none⟩) nE c0,.int .i64 (d.last:Int)]) :
 ∃ hv Es2,Own V w (({ d with hv:=hv,E:=A ++ B,Es:=Es2 } : StoD).things S ++ R) ∧ EngA d.t.kind d.ws d.ev Es2 Xs M N:=by
 obtain ⟨h1,h2,h3,h4⟩:=hx
 refine ⟨.slice (some ⟨B0,0,none⟩) (nE - 1) c0,Es2,?_,he⟩
 have e1:(cellsHs d.E).take (i * 14) ++ (cellsHs d.E).drop ((i + 1) * 14) = cellsHs (A ++ B):=by
  rw [cellsHs_take,cellsHs_drop,← cellsHs_append,h3,← h4,List.take_left,List.drop_append,List.drop_of_length_le (by omega),show A.length + 1 - A.length = 1 by omega]
  rfl
 have e2:(A ++ B).length = nE - 1:=by
  rw [← h1,h3,List.length_append,List.length_append,List.length_cons]; omega
 rw [e1,hC] at K
 show Own V w (blkT S (stoC ({ d with hv:=.slice (some ⟨B0,0,none⟩) (nE - 1) c0,E:=A ++ B,Es:=Es2 } : StoD)) 72 :: rowK d :: rowT 77 14 (.slice (some ⟨B0,0,none⟩) (nE - 1) c0) (A ++ B).length (cellsHs (A ++ B)) :: (Es2 ++ R))
 rw [e2]
 exact K.perm ((List.Perm.swap _ _ _).cons _)
set_option maxRecDepth 20000 in
theorem zremove_c {V w:World} {R Xs:List Thing} {S:Nat} {d:StoD} {N:Nat} (H:Own V w (d.things S ++ R)) (s:Sliced d.E) (hl:d.E.length < 1000000) {M:List KP} (heng:EngA d.t.kind d.ws d.ev d.Es Xs M N) (hN:N < 99990) (hf:EngF d.t.kind d.ws M) {A B:List HeldP} {y:HeldP} (eE:d.E = A ++ y :: B) (hy:FitX d.t.kind d.ws y.x) (hm:∃ m ∈ M,OneK m.1 y.x) {i:Nat} (hi:A.length = i) :
 Calls Tryz.prog 32 #[pS S,.int .i64 (i:Int)] w fun e w' => e = .returned (.tuple #[]) ∧ ∃ hv Es2,Own V w' (({ d with hv:=hv,E:=A ++ B,Es:=Es2 } : StoD).things S ++ R) ∧ EngA d.t.kind d.ws d.ev Es2 Xs (butM M y.x) N:=by
 obtain ⟨A0,c0,ehv,hs⟩:=sto_row H s
 obtain ⟨nE,hnE⟩ : ∃ n,d.E.length = n:=⟨_,rfl⟩
 have hin:i < nE:=by rw [← hnE,eE,← hi]; simp
 have hat:d.E[i]? = some y:=by rw [eE,← hi,List.getElem?_append_right (Nat.le_refl _),Nat.sub_self]; rfl
 rw [hnE] at ehv hl
 have c7:=blk_cell H.head 7 (v:=d.hv) rfl
 have c6:=blk_cell H.head 6 (v:=d.ev) rfl
 rw [ehv] at c7
 obtain ⟨B0,rfl,Ay,ny,cy,eav,x0,x1,x2,x3,x4,x5,x6,x7,x8,x9,x10,x11,x12,x13⟩:=hs i y hat
 have hdel:=engA_del heng hN hf hy hm
 have i0:(0:Int) ≤ (i:Int):=by omega
 have i1:(i:Int) < (nE:Int):=by omega
 have zd:=fun {R2:List Thing} (W:World) (HW:Own V W (rowT 77 14 (.slice (some ⟨B0,0,none⟩) nE c0) nE (cellsHs d.E) :: R2)) => udelHd_1 HW (cellsHs_one s) hin hl
 have i2:IntKind.i64.wrap ((i:Int) + 1) = (i:Int) + 1:=by simp [IntKind.wrap,IntKind.bits,IntKind.signed]; omega
 show Calls Tryz.prog 32 #[.pointer (some ⟨S,0,none⟩),.int .i64 (i:Int)] w _
 have HX:=Lib.hid (And.intro hnE (And.intro ehv (And.intro eE hi)))
 clear heng hf hy hm hs hat hi hnE eE
 rcases hdel with ⟨p,hev,hdel⟩ | ⟨Z,hev,hdel⟩ | ⟨Z,hev,hdel⟩ | ⟨Z,D,nw,cw,hev,hdel⟩
 · have ze:=fun {R2:List Thing} (W:World) (HW:Own V W (d.Es ++ R2)) => hdel HW Ay ny cy
   clear hdel
   obtain ⟨⟨tb,key,oth,ln,pr,bk,args,idle,hard,ck,tl⟩,av,pl0,put,used⟩:=y
   simp only at x0 x1 x2 x3 x4 x5 x6 x7 x8 x9 x10 x11 x12 x13
   have ze:∀ {R2:List Thing} (W:World),Own V W (d.Es ++ R2) → Calls Tryz.prog 78 #[.agg #[.pointer (some p)],.agg #[.int .i64 tb,.string key,.string oth,.int .i64 ln,.int .i64 pr,.int .i64 bk,.slice Ay ny cy,.int .i64 idle,.int .i64 hard,.int .u64 ck,.bool tl]] W fun e w2 => e = .returned (.tuple #[]) ∧ ∃ Es2,Own V w2 (Es2 ++ R2) ∧ EngA d.t.kind d.ws d.ev Es2 Xs (butM M ⟨tb,key,oth,ln,pr,bk,args,idle,hard,ck,tl⟩) N:=ze
   rw [hev] at c6
   have K0:=(sto_front H).quiet (Wider.refl w).drew
   go_enter Tryz.func32,Tryz.ntmps32
   go_upto_region 0 with (fail)
   go_still_tail 14,(by kernel_rfl)
   change wpList _ _ _ _ _ w.drew
   go_wp2_with (first
    | (go_at_call 78; ((with_reducible refine (ze _ K0).mono ?_); rintro e w1 ⟨rfl,Es2,K1,h2⟩; have HE2:=Lib.hid h2; obtain ⟨K3,e7⟩:=sto_mid K1 HX.out.1 HX.out.2.1; clear ze K0 K1 h2))
    | (go_at_call 48; ((with_reducible refine (zd _ K3).mono ?_); rintro e w2 ⟨rfl,K4⟩; have f7:=blk_free K4.second 7; have e8:=blk_cell K4.second 7 (v:=.slice (some ⟨B0,0,none⟩) nE c0) rfl; have K5:=K4.swap.store 7 (.slice (some ⟨B0,0,none⟩) (nE - 1) c0); clear zd K3 K4)))
   simp [bodyPost,results,Tryz.results32,go_sem]
   exact sto_cut K5 HX.out HE2.out rfl
 · have ze:=fun {R2:List Thing} (W:World) (HW:Own V W (d.Es ++ R2)) => hdel HW Ay ny cy
   clear hdel
   obtain ⟨⟨tb,key,oth,ln,pr,bk,args,idle,hard,ck,tl⟩,av,pl0,put,used⟩:=y
   simp only at x0 x1 x2 x3 x4 x5 x6 x7 x8 x9 x10 x11 x12 x13
   have ze:∀ {R2:List Thing} (W:World),Own V W (d.Es ++ R2) → Calls Tryz.prog 100 #[.agg #[.pointer (some ⟨Z,0,none⟩)],.agg #[.int .i64 tb,.string key,.string oth,.int .i64 ln,.int .i64 pr,.int .i64 bk,.slice Ay ny cy,.int .i64 idle,.int .i64 hard,.int .u64 ck,.bool tl]] W fun e w2 => e = .returned (.tuple #[]) ∧ ∃ Es2,Own V w2 (Es2 ++ R2) ∧ EngA d.t.kind d.ws d.ev Es2 Xs (butM M ⟨tb,key,oth,ln,pr,bk,args,idle,hard,ck,tl⟩) N:=ze
   rw [hev] at c6
   have K0:=(sto_front H).quiet (Wider.refl w).drew
   go_enter Tryz.func32,Tryz.ntmps32
   go_upto_region 0 with (fail)
   go_still_tail 14,(by kernel_rfl)
   change wpList _ _ _ _ _ w.drew
   go_wp2_with (first
    | (go_at_call 100; ((with_reducible refine (ze _ K0).mono ?_); rintro e w1 ⟨rfl,Es2,K1,h2⟩; have HE2:=Lib.hid h2; obtain ⟨K3,e7⟩:=sto_mid K1 HX.out.1 HX.out.2.1; clear ze K0 K1 h2))
    | (go_at_call 48; ((with_reducible refine (zd _ K3).mono ?_); rintro e w2 ⟨rfl,K4⟩; have f7:=blk_free K4.second 7; have e8:=blk_cell K4.second 7 (v:=.slice (some ⟨B0,0,none⟩) nE c0) rfl; have K5:=K4.swap.store 7 (.slice (some ⟨B0,0,none⟩) (nE - 1) c0); clear zd K3 K4)))
   simp [bodyPost,results,Tryz.results32,go_sem]
   exact sto_cut K5 HX.out HE2.out rfl
 · have ze:=fun {R2:List Thing} (W:World) (HW:Own V W (d.Es ++ R2)) => hdel HW Ay ny cy
   clear hdel
   obtain ⟨⟨tb,key,oth,ln,pr,bk,args,idle,hard,ck,tl⟩,av,pl0,put,used⟩:=y
   simp only at x0 x1 x2 x3 x4 x5 x6 x7 x8 x9 x10 x11 x12 x13
   have ze:∀ {R2:List Thing} (W:World),Own V W (d.Es ++ R2) → Calls Tryz.prog 127 #[.agg #[.pointer (some ⟨Z,0,none⟩)],.agg #[.int .i64 tb,.string key,.string oth,.int .i64 ln,.int .i64 pr,.int .i64 bk,.slice Ay ny cy,.int .i64 idle,.int .i64 hard,.int .u64 ck,.bool tl]] W fun e w2 => e = .returned (.tuple #[]) ∧ ∃ Es2,Own V w2 (Es2 ++ R2) ∧ EngA d.t.kind d.ws d.ev Es2 Xs (butM M ⟨tb,key,oth,ln,pr,bk,args,idle,hard,ck,tl⟩) N:=ze
   rw [hev] at c6
   have K0:=(sto_front H).quiet (Wider.refl w).drew
   go_enter Tryz.func32,Tryz.ntmps32
   go_upto_region 0 with (fail)
   go_still_tail 14,(by kernel_rfl)
   change wpList _ _ _ _ _ w.drew
   go_wp2_with (first
    | (go_at_call 127; ((with_reducible refine (ze _ K0).mono ?_); rintro e w1 ⟨rfl,Es2,K1,h2⟩; have HE2:=Lib.hid h2; obtain ⟨K3,e7⟩:=sto_mid K1 HX.out.1 HX.out.2.1; clear ze K0 K1 h2))
    | (go_at_call 48; ((with_reducible refine (zd _ K3).mono ?_); rintro e w2 ⟨rfl,K4⟩; have f7:=blk_free K4.second 7; have e8:=blk_cell K4.second 7 (v:=.slice (some ⟨B0,0,none⟩) nE c0) rfl; have K5:=K4.swap.store 7 (.slice (some ⟨B0,0,none⟩) (nE - 1) c0); clear zd K3 K4)))
   simp [bodyPost,results,Tryz.results32,go_sem]
   exact sto_cut K5 HX.out HE2.out rfl
 · have ze:=fun {R2:List Thing} (W:World) (HW:Own V W (d.Es ++ R2)) => hdel HW Ay ny cy
   clear hdel
   obtain ⟨⟨tb,key,oth,ln,pr,bk,args,idle,hard,ck,tl⟩,av,pl0,put,used⟩:=y
   simp only at x0 x1 x2 x3 x4 x5 x6 x7 x8 x9 x10 x11 x12 x13
   have ze:∀ {R2:List Thing} (W:World),Own V W (d.Es ++ R2) → Calls Tryz.prog 181 #[.agg #[.pointer (some ⟨Z,0,none⟩),.slice D nw cw],.agg #[.int .i64 tb,.string key,.string oth,.int .i64 ln,.int .i64 pr,.int .i64 bk,.slice Ay ny cy,.int .i64 idle,.int .i64 hard,.int .u64 ck,.bool tl]] W fun e w2 => e = .returned (.tuple #[]) ∧ ∃ Es2,Own V w2 (Es2 ++ R2) ∧ EngA d.t.kind d.ws d.ev Es2 Xs (butM M ⟨tb,key,oth,ln,pr,bk,args,idle,hard,ck,tl⟩) N:=ze
   rw [hev] at c6
   have K0:=(sto_front H).quiet (Wider.refl w).drew
   go_enter Tryz.func32,Tryz.ntmps32
   go_upto_region 0 with (fail)
   go_still_tail 14,(by kernel_rfl)
   change wpList _ _ _ _ _ w.drew
   go_wp2_with (first
    | (go_at_call 181; ((with_reducible refine (ze _ K0).mono ?_); rintro e w1 ⟨rfl,Es2,K1,h2⟩; have HE2:=Lib.hid h2; obtain ⟨K3,e7⟩:=sto_mid K1 HX.out.1 HX.out.2.1; clear ze K0 K1 h2))
    | (go_at_call 48; ((with_reducible refine (zd _ K3).mono ?_); rintro e w2 ⟨rfl,K4⟩; have f7:=blk_free K4.second 7; have e8:=blk_cell K4.second 7 (v:=.slice (some ⟨B0,0,none⟩) nE c0) rfl; have K5:=K4.swap.store 7 (.slice (some ⟨B0,0,none⟩) (nE - 1) c0); clear zd K3 K4)))
   simp [bodyPost,results,Tryz.results32,go_sem]
   exact sto_cut K5 HX.out HE2.out rfl
end Go.Proofs.YtbnpelciceblfaaGreat
