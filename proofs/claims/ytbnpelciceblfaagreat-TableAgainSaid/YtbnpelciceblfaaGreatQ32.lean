/- ZAx ZDue YLaw YEntries -/
import Derived.Test.YtbnpelciceblfaaGreatQ31
namespace Go.Proofs.YtbnpelciceblfaaGreat
set_option linter.unusedVariables false
open Go.ChangeShapes Go.WideShapes Go.ChangeAt Go.RowKit Go.Joins
set_option maxHeartbeats 64000000
theorem set_same {α β:Type} {l:List α} {i:Nat} {a b:α} (f:α → β) (h:l[i]? = some a) (e:f b = f a):(l.set i b).map f = l.map f:=by
 obtain ⟨hi,q⟩:=List.getElem?_eq_some_iff.1 h
 rw [List.map_set,e,← q,← List.getElem_map f (h:=by rw [List.length_map]; exact hi),List.set_getElem_self]
theorem StF.used {d:StoD} {Xs Es2:List Thing} {s:StM} (f:StF d Xs s) {i:Nat} {h:HeldP} {u:Int} (hi:d.E[i]? = some h) (hu:0 ≤ u ∧ u ≤ 1099511627776) (he:EngA d.t.kind d.ws d.ev Es2 Xs (d.E.map HeldP.kp) s.n):StF { d with E:=d.E.set i (h.at_ u),Es:=Es2 } Xs { s with L:=(d.E.set i (h.at_ u)).map HeldP.m } :=by
 have hh:h ∈ d.E:=List.mem_of_getElem? hi
 have ekp:(d.E.set i (h.at_ u)).map HeldP.kp = d.E.map HeldP.kp:=set_same _ hi rfl
 have epl:(d.E.set i (h.at_ u)).map HeldP.pl = d.E.map HeldP.pl:=set_same _ hi rfl
 have ex:(d.E.set i (h.at_ u)).map (fun h => h.x) = d.E.map (fun h => h.x):=set_same _ hi rfl
 have each:∀ {P:HeldP → Prop},(∀ g ∈ d.E,P g) → P (h.at_ u) → ∀ g ∈ d.E.set i (h.at_ u),P g:=fun a p g hg => by
  rcases List.mem_or_eq_of_mem_set hg with k | rfl
  · exact a g k
  · exact p
 have inL:HeldP.m h ∈ s.L:=by rw [f.hL]; exact List.mem_map.2 ⟨h,hh,rfl⟩
 have eachL:∀ {P:HeldM → Prop},(∀ g ∈ s.L,P g) → P (HeldP.m (h.at_ u)) → ∀ g ∈ (d.E.set i (h.at_ u)).map HeldP.m,P g:=fun {P} a p g hg => by
  obtain ⟨q,hq,rfl⟩:=List.mem_map.1 hg
  rcases List.mem_or_eq_of_mem_set hq with k | rfl
  · exact a _ (by rw [f.hL]; exact List.mem_map.2 ⟨q,k,rfl⟩)
  · exact p
 have nd:((d.E.set i (h.at_ u)).map HeldP.m).Pairwise fun a b => ¬ OneE a.x b.x:=by
  have n0:=f.good.l.nd
  rw [f.hL,List.pairwise_map] at n0
  rw [List.pairwise_map]
  have n1:(d.E.map (fun h => h.x)).Pairwise fun a b => ¬ OneE a b:=List.pairwise_map.2 n0
  rw [← ex] at n1
  exact List.pairwise_map.1 n1
 exact { f with
  eng:=by show EngA _ _ _ _ _ ((d.E.set i (h.at_ u)).map HeldP.kp) _; rw [ekp]; exact he
  engf:=by show EngF _ _ ((d.E.set i (h.at_ u)).map HeldP.kp); rw [ekp]; exact f.engf
  args:=each (P:=fun g => argA g.x g.av ∈ Xs) f.args (f.args h hh)
  asc:=by
   have n1:(d.E.map HeldP.pl).Pairwise fun a b => a < b:=List.pairwise_map.2 f.asc
   rw [← epl] at n1
   exact List.pairwise_map.1 n1
  last:=each (P:=fun g => g.pl ≤ d.last) f.last (f.last h hh)
  hL:=rfl
  good:=⟨⟨nd,by have:=f.good.l.len; rw [f.hL,List.length_map] at this; show ((d.E.set i (h.at_ u)).map HeldP.m).length ≤ _; rw [List.length_map,List.length_set]; exact this,eachL (P:=fun g => 0 ≤ g.x.hard ∧ g.x.hard ≤ 1099511627776) f.good.l.hard (f.good.l.hard (HeldP.m h) inL),eachL (P:=fun g => 0 ≤ g.x.idle ∧ g.x.idle ≤ 1099511627776) f.good.l.idle (f.good.l.idle (HeldP.m h) inL),eachL (P:=fun g => 0 ≤ g.put ∧ g.put ≤ 1099511627776) f.good.l.put (f.good.l.put (HeldP.m h) inL),eachL (P:=fun g => 0 ≤ g.found ∧ g.found ≤ 1099511627776) f.good.l.found hu⟩,f.good.c1,f.good.c2,eachL (P:=fun g => mayT s g.x = true) f.good.may (f.good.may (HeldP.m h) inL),eachL (P:=fun g => g.x.key.size ≤ 32 ∧ g.x.oth.size ≤ 32) f.good.small (f.good.small (HeldP.m h) inL),eachL (P:=fun g => g.x.Ok) f.good.ok (f.good.ok (HeldP.m h) inL)⟩ }
section
variable {V w:World} {R:List Thing} {S:Nat} {s:StM}
theorem yput_c (h:StoreIs V w R S s) (hN:s.n < 99990) {x:EntV} {av:Value} (ha:∀ W,Own V W R → ArgsAt W av x.args) (ho:x.Ok) (now:Int) :
 Calls Tryz.prog 10 #[pS S,entV x av,.int .i64 now] w fun e w' => e = .returned (.int .i64 (codeP s x)) ∧ StoreIs V w' R S (putS s x now):=by
 have hr:=h.rest
 obtain ⟨Xs,Ts,K,d,rfl,f⟩:=h
 obtain ⟨A,n,c,rfl,hn,_⟩:=id (ha w hr)
 by_cases hm:mayT s x = true
 · have hl:s.L.length = d.E.length:=by rw [f.hL,List.length_map]
   obtain ⟨r,hr⟩:=indexH_ex x d.E
   rcases hr with ⟨_,hno⟩ | ⟨A0,C0,y,eE,oy,hA,_⟩
   · have nh:¬ hasE s.L x:=fun ⟨m,hm,o⟩ => by
      rw [f.hL] at hm
      obtain ⟨p,hp,rfl⟩:=List.mem_map.1 hm
      exact hno p hp o
     by_cases room:d.E.length < s.cap
     · have hc:hasE s.L x ∨ s.L.length < s.cap:=.inr (by omega)
       have ec:codeP s x = 0:=by unfold codeP; rw [if_pos hm,if_pos hc]
       rw [ec]
       refine (zputN_a K f hN x ha ho hm hno room now).mono ?_
       rintro e w' ⟨rfl,BI,cI,hv,Es2,_,K2,he⟩
       exact ⟨rfl,_,_,K2,_,rfl,f.snoc (hv:=hv) (List.Sublist.refl _) (by rw [butE_none nh,f.hL]) hm ho hc he⟩
     · have hc:¬ (hasE s.L x ∨ s.L.length < s.cap):=fun k => by
        rcases k with k | k
        · exact nh k
        · omega
       have ec:codeP s x = 12:=by unfold codeP; rw [if_pos hm,if_neg hc]
       have ep:putS s x now = s:=by unfold putS; rw [if_neg (fun k => hc k.2)]
       rw [ec,ep]
       refine (zputF_a K f x hn ho hm hno (by omega) now).mono ?_
       rintro e w' ⟨rfl,g⟩
       exact ⟨rfl,Xs,_,K.quiet g,d,rfl,f⟩
   · have hc:hasE s.L x ∨ s.L.length < s.cap:=.inl ⟨HeldP.m y,by rw [f.hL,eE]; exact List.mem_map.2 ⟨y,List.mem_append_right _ (.head _),rfl⟩,oy⟩
     have ec:codeP s x = 0:=by unfold codeP; rw [if_pos hm,if_pos hc]
     rw [ec]
     refine (zputH_a K f hN x ha ho hm eE oy hA now).mono ?_
     rintro e w' ⟨rfl,BI,cI,hv,Es2,_,K2,he⟩
     have gl:=f.good.l
     rw [f.hL,eE] at gl
     exact ⟨rfl,_,_,K2,_,rfl,f.snoc (hv:=hv) (by rw [eE]; exact List.Sublist.append_left (List.sublist_cons_self _ _) _) (by rw [f.hL,eE]; exact cut_but gl oy) hm ho hc he⟩
 · have ec:codeP s x = 3:=by unfold codeP; rw [if_neg hm]
   have ep:putS s x now = s:=by unfold putS; rw [if_neg (fun k => hm k.1)]
   rw [ec,ep]
   refine (zputM_a K f x hn ho hm now).mono ?_
   rintro e w' ⟨rfl,g⟩
   exact ⟨rfl,Xs,_,K.quiet g,d,rfl,f⟩
theorem ydel_c (h:StoreIs V w R S s) (hN:s.n < 99990) {x:EntV} {av:Value} (ha:ArgsAt w av x.args) (ho:x.Ok) :
 Calls Tryz.prog 16 #[pS S,entV x av] w fun e w' => (∃ b,e = .returned (.bool b)) ∧ StoreIs V w' R S { s with L:=butE s.L x } :=by
 obtain ⟨Xs,Ts,K,d,rfl,f⟩:=h
 obtain ⟨A,n,c,rfl,hn,_⟩:=id ha
 obtain ⟨r,hr⟩:=indexH_ex x d.E
 rcases hr with ⟨_,hno⟩ | ⟨A0,C0,y,eE,oy,hA,_⟩
 · have nh:¬ hasE s.L x:=fun ⟨m,hm,o⟩ => by
    rw [f.hL] at hm
    obtain ⟨p,hp,rfl⟩:=List.mem_map.1 hm
    exact hno p hp o
   rw [butE_none nh]
   refine (zdelN_a K f hN x A n c hno).mono ?_
   rintro e w' ⟨rfl,g⟩
   exact ⟨⟨_,rfl⟩,Xs,_,K.quiet g,d,rfl,f⟩
 · refine (zdelH_a K f hN x A n c eE oy hA).mono ?_
   rintro e w' ⟨rfl,hv,Es2,K2,he⟩
   have gl:=f.good.l
   rw [f.hL,eE] at gl
   have el:butE s.L x = (A0 ++ C0).map HeldP.m:=by rw [f.hL,eE]; exact (cut_but gl oy).symm
   rw [el]
   exact ⟨⟨_,rfl⟩,Xs,_,K2,_,rfl,f.cut (hv:=hv) eE he⟩
theorem yfind_c (h:StoreIs V w R S s) (hN:s.n < 99990) (key:ByteArray) (hk:key.size ≤ 9223372036854775807) (now:Int) :
 Calls Tryz.prog 13 #[pS S,.string key,.int .i64 now] w fun e w' => ∃ x av b L',e = .returned (.tuple #[entV x av,.bool b]) ∧ StoreIs V w' R S { s with L:=L' } :=by
 obtain ⟨Xs,Ts,K,d,rfl,f⟩:=h
 refine (zfind_a K f hN key hk now).mono ?_
 rintro e w' ⟨r,Es2,_,he,⟨_,rfl,K2⟩ | ⟨i,h,BI,na,cI,_,hi,_,rfl,K2⟩⟩
 · exact ⟨_,_,_,s.L,rfl,Xs,_,K2,_,rfl,{ f with eng:=he,good:=f.good }⟩
 · have K3:=own_unbox K2
   exact ⟨_,_,_,_,rfl,Xs,_,K3,_,rfl,f.used hi (clampT_le now) he⟩
theorem yexpire_c (h:StoreIs V w R S s) (hN:s.n < 99990) (now:Int) {n:Nat} (hn:(outT (clampT now) s.L).length = n) :
 Calls Tryz.prog 17 #[pS S,.int .i64 now] w fun e w' => ∃ B c G,e = .returned (.slice B n c) ∧ (G.map fun g => (g.e.x,g.tag)) = outT (clampT now) s.L ∧ StoreIs V w' (gonesT (.slice B n c) n G ++ R) S { s with L:=restT (clampT now) s.L } :=by
 obtain ⟨Xs,Ts,K,d,rfl,f⟩:=h
 refine (zexpire_a K f hN now).mono ?_
 rintro e w' ⟨B,m,c,G,A,hv,Es,rfl,hm,hG,hA,f2,K2⟩
 rw [← f.hL] at hG hA
 have em:m = n:=by rw [← hm,← hn,← hG,List.length_map]
 subst em
 rw [hA] at f2
 refine ⟨B,c,G,rfl,hG,Xs,_,K2.perm ?_,_,rfl,f2⟩
 exact (perm_mid _ _ _).trans ((perm_mid _ _ _).append_left _)
theorem yents_c (h:StoreIs V w R S s) {n:Nat} (hn:s.L.length = n) :
 Calls Tryz.prog 18 #[pS S] w fun e w' => ∃ B c E,e = .returned (.slice B n c) ∧ E.map (·.x) = s.L.map (·.x) ∧ StoreIs V w' (entsT (.slice B n c) n E ++ R) S s:=by
 obtain ⟨Xs,Ts,K,d,rfl,f⟩:=h
 refine (zents_a K f (n:=n) (by rw [← hn,f.hL,List.length_map])).mono ?_
 rintro e w' ⟨B,c,El,rfl,hE,K2⟩
 refine ⟨B,c,El,rfl,?_,Xs,_,K2.perm ?_,d,rfl,f⟩
 · rw [hE,f.hL,List.map_map]; rfl
 · exact (perm_mid _ _ _).trans ((perm_mid _ _ _).append_left _)
theorem ynew_c (H:Own V w R) {t:TabV} {kv wv:Value} {zs:List Int} (hk:∀ W,Own V W R → NumsAt W kv t.keys) (hw:∀ W,Own V W R → NumsAt W wv zs) (h1:t.keys.length < 1000) (h2:zs.length < 1000) :
 Calls Tryz.prog 11 #[.agg (tabC t kv),wv] w fun e w' => ∃ p r,e = .returned (.tuple #[p,.int .i64 r]) ∧ ((r = 3 ∧ p = .pointer none ∧ Wider w w') ∨ ∃ (S:Nat) (km:ByteArray → ByteArray → Int → Int → Bool) (c:Nat),r = 0 ∧ p = pS S ∧ t.cap = (c:Int) ∧ StoreIs V w' R S ⟨t.id,km,c,[],0⟩):=by
 obtain ⟨KA,kn,kc,rfl,hkn,_⟩:=id (hk w H)
 obtain ⟨WA,wn,wc,rfl,hwn,_⟩:=id (hw w H)
 refine (znew_a H t hk (by omega) hw (by omega)).mono ?_
 rintro e w' (⟨_,rfl,g⟩ | ⟨hm,S,rfl,K⟩)
 · exact ⟨_,_,rfl,.inl ⟨rfl,rfl,g⟩⟩
 · exact ⟨_,_,rfl,.inr ⟨S,_,t.cap.toNat,rfl,rfl,by have:=hm.2.2.2.2.2.2.1.1; omega,K⟩⟩
end
def dueV (E:List HeldP):Int:=E.foldl (fun v h => min (min v (hardH h)) (idleH h)) 9223372036854775807
theorem dueV_next {E:List HeldP} {i:Nat} {h:HeldP} (hi:E[i]? = some h):dueV (E.take (i + 1)) = min (min (dueV (E.take i)) (hardH h)) (idleH h):=by
 obtain ⟨k,rfl⟩:=List.getElem?_eq_some_iff.1 hi
 unfold dueV
 rw [List.take_succ_eq_append_getElem k,List.foldl_append]
 rfl
theorem due_fold:∀ (E:List HeldP) (v:Int),(E.foldl (fun v h => min (min v (hardH h)) (idleH h)) v ≤ v ∧ (∀ h ∈ E,E.foldl (fun v h => min (min v (hardH h)) (idleH h)) v ≤ hardH h ∧ E.foldl (fun v h => min (min v (hardH h)) (idleH h)) v ≤ idleH h) ∧ (E.foldl (fun v h => min (min v (hardH h)) (idleH h)) v = v ∨ ∃ h ∈ E,E.foldl (fun v h => min (min v (hardH h)) (idleH h)) v = hardH h ∨ E.foldl (fun v h => min (min v (hardH h)) (idleH h)) v = idleH h))
 | [],v => ⟨Int.le_refl _,fun h k => (by cases k),.inl rfl⟩
 | h :: E,v => by
   obtain ⟨a,b,c⟩:=due_fold E (min (min v (hardH h)) (idleH h))
   rw [List.foldl_cons]
   generalize hF:E.foldl (fun v h => min (min v (hardH h)) (idleH h)) (min (min v (hardH h)) (idleH h)) = F at *
   refine ⟨by omega,fun g hg => ?_,?_⟩
   · rcases List.mem_cons.1 hg with e | hg
     · subst e
       exact ⟨Int.le_trans a (by omega),Int.le_trans a (by omega)⟩
     · exact b g hg
   · rcases c with c | ⟨g,hg,c⟩
     · rw [c]
       clear a b c hF
       by_cases h1:min (min v (hardH h)) (idleH h) = v
       · exact .inl h1
       · refine .inr ⟨h,.head _,?_⟩
         generalize hardH h = x at *
         generalize idleH h = y at *
         omega
     · exact .inr ⟨g,.tail _ hg,c⟩
theorem min_if (u h i:Int):min (min u h) i = if i < (if h < u then h else u) then i else (if h < u then h else u):=by
 by_cases a:h < u
 · rw [if_pos a]
   by_cases b:i < h
   · rw [if_pos b]; omega
   · rw [if_neg b]; omega
 · rw [if_neg a]
   by_cases b:i < u
   · rw [if_pos b]; omega
   · rw [if_neg b]; omega
theorem dueV_is {E:List HeldP} (ht:∀ h ∈ E,TimeH h) {v:Int} (hv:dueV E = v):DueIs (E.map HeldP.m) (if v = 9223372036854775807 then 0 else v) (decide (v ≠ 9223372036854775807)):=by
 obtain ⟨_,b,c⟩:=due_fold E 9223372036854775807
 rw [show E.foldl (fun v h => min (min v (hardH h)) (idleH h)) 9223372036854775807 = v from hv] at b c
 have du:∀ h ∈ E,∀ u,DueH (HeldP.m h) u → (u = hardH h ∨ u = idleH h) ∧ u < 9223372036854775807:=fun h hh u k => by
  have t:=ht h hh
  have k1:=t.p0; have k2:=t.p1; have k3:=t.u0; have k4:=t.u1; have k5:=t.h0; have k6:=t.h1; have k7:=t.i0; have k8:=t.i1
  unfold hardH idleH aftT
  rcases k with ⟨k,e⟩ | ⟨k,e⟩
  · have k:0 < h.x.hard:=k
    have e:u = h.put + h.x.hard:=e
    rw [if_neg (by omega)]
    exact ⟨.inl e,by omega⟩
  · have k:0 < h.x.idle:=k
    have e:u = h.used + h.x.idle:=e
    rw [if_neg (show ¬ h.x.idle = 0 by omega)]
    exact ⟨.inr e,by omega⟩
 by_cases n:v = 9223372036854775807
 · refine .inl ⟨by simp [n],by rw [if_pos n],fun h hh u k => ?_⟩
   obtain ⟨p,hp,rfl⟩:=List.mem_map.1 hh
   have:=du p hp u k
   have:=b p hp
   omega
 · refine .inr ⟨by simp [n],?_,fun h hh u k => ?_⟩
   · rw [if_neg n]
     rcases c with c | ⟨h,hh,c⟩
     · exact absurd c n
     · refine ⟨HeldP.m h,List.mem_map.2 ⟨h,hh,rfl⟩,?_⟩
       have t:=ht h hh
       have k5:=t.h0; have k7:=t.i0
       unfold hardH idleH aftT at c
       rcases c with c | c
       · by_cases q:h.x.hard = 0
         · rw [if_pos q] at c; exact absurd c n
         · rw [if_neg q] at c; exact .inl ⟨show 0 < h.x.hard by omega,c⟩
       · by_cases q:h.x.idle = 0
         · rw [if_pos q] at c; exact absurd c n
         · rw [if_neg q] at c; exact .inr ⟨show 0 < h.x.idle by omega,c⟩
   · rw [if_neg n]
     obtain ⟨p,hp,rfl⟩:=List.mem_map.1 hh
     have:=du p hp u k
     have:=b p hp
     omega
set_option maxRecDepth 20000 in
theorem zdue_a {V w:World} {R Xs:List Thing} {S:Nat} {d:StoD} {s:StM} (H:Own V w (d.things S ++ (Xs ++ R))) (f:StF d Xs s) {v:Int} (hv:dueV d.E = v) :
 Calls Tryz.prog 15 #[pS S] w fun e w' => e = .returned (.tuple #[.int .i64 (if v = 9223372036854775807 then 0 else v),.bool (decide (v ≠ 9223372036854775807))]) ∧ Wider w w':=by
 have slc:=f.sliced H (fun t ht => List.mem_append_right _ (List.mem_append_left _ ht))
 have hlen:=f.len
 have htm:∀ h ∈ d.E,TimeH h:=fun h hh => f.time hh
 obtain ⟨A9,cp9,ehv9,hs⟩:=sto_row H slc
 have u7:=blk_cell H.head 7 (v:=d.hv) rfl
 obtain ⟨nD,hnD⟩ : ∃ n,d.E.length = n:=⟨_,rfl⟩
 rw [ehv9,hnD] at u7
 rw [hnD] at hlen
 have HX:=Lib.hid (And.intro hv (And.intro hs (And.intro hnD htm)))
 have HH:=Lib.hid H
 have g0:=Wider.refl w
 clear H f hv slc ehv9 hnD htm hs
 refine by_post fun Q hQ => ?_
 have HQ:=Lib.hid hQ
 clear hQ
 show Calls Tryz.prog 15 #[.pointer (some ⟨S,0,none⟩)] w Q
 go_enter Tryz.func15,Tryz.ntmps15
 go_wp2
 go_loopw [4,14] (fun a b wr => ∃ (i:Nat) (u:Int),i ≤ nD ∧ a = .int .i64 u ∧ Hid (dueV (d.E.take i) = u) ∧ b = .int .i64 (i:Int) ∧ Wider w wr) (fun _ b _ => nD - (intOf b).toNat)
 case atStart => exact ⟨0,_,Nat.zero_le _,rfl,Lib.hid rfl,rfl,g0⟩
 case round =>
  clear g0
  obtain ⟨i,u,hi,rfl,HU,rfl,G⟩:=hrel
  have i0:(0:Int) ≤ (i:Int):=by omega
  by_cases c:i < nD
  · have i1:(i:Int) < (nD:Int):=by omega
    obtain ⟨hE,hy⟩ : ∃ h,d.E[i]? = some h:=⟨d.E[i]'(by rw [HX.out.2.2.1]; exact c),List.getElem?_eq_getElem _⟩
    obtain ⟨B,rfl,Ay,na,cy,eav,x0,x1,x2,x3,x4,x5,x6,x7,x8,x9,x10,x11,x12,x13⟩:=(HX.out.2.1.on G) i hE hy
    have zh:=zhard_c hE (HX.out.2.2.2 hE (List.mem_of_getElem? hy)) Ay na cy
    have zi:=zidle_c hE (HX.out.2.2.2 hE (List.mem_of_getElem? hy)) Ay na cy
    have hd:=dueV_next hy
    rw [HU.out] at hd
    obtain ⟨hh,hhh⟩ : ∃ r,hardH hE = r:=⟨_,rfl⟩
    obtain ⟨ii,hii⟩ : ∃ r,idleH hE = r:=⟨_,rfl⟩
    rw [hhh] at zh hd
    rw [hii] at zi hd
    clear hhh hii hy eav
    obtain ⟨⟨tb,key,oth,ln,pr,bk,args,idle,hard,ck,tl⟩,av,pl0,put,used⟩:=hE
    have H1:=(HH.out.quiet G).blk #[.int .i64 tb,.string key,.string oth,.int .i64 ln,.int .i64 pr,.int .i64 bk,.slice Ay na cy,.int .i64 idle,.int .i64 hard,.int .u64 ck,.bool tl,.int .i64 (pl0:Int),.int .i64 put,.int .i64 used] 77
    have GW:=G.alloc (.cells #[.int .i64 tb,.string key,.string oth,.int .i64 ln,.int .i64 pr,.int .i64 bk,.slice Ay na cy,.int .i64 idle,.int .i64 hard,.int .u64 ck,.bool tl,.int .i64 (pl0:Int),.int .i64 put,.int .i64 used] 77)
    simp only at x0 x1 x2 x3 x4 x5 x6 x7 x8 x9 x10 x11 x12 x13
    have zh:∀ w,Calls Tryz.prog 41 #[.agg #[.int .i64 tb,.string key,.string oth,.int .i64 ln,.int .i64 pr,.int .i64 bk,.slice Ay na cy,.int .i64 idle,.int .i64 hard,.int .u64 ck,.bool tl,.int .i64 (pl0:Int),.int .i64 put,.int .i64 used]] w fun e w' => e = .returned (.int .i64 hh) ∧ Wider w w':=zh
    have zi:∀ w,Calls Tryz.prog 42 #[.agg #[.int .i64 tb,.string key,.string oth,.int .i64 ln,.int .i64 pr,.int .i64 bk,.slice Ay na cy,.int .i64 idle,.int .i64 hard,.int .u64 ck,.bool tl,.int .i64 (pl0:Int),.int .i64 put,.int .i64 used]] w fun e w' => e = .returned (.int .i64 ii) ∧ Wider w w':=zi
    obtain ⟨pl,hpl⟩ : ∃ pl:Int,(pl0:Int) = pl:=⟨_,rfl⟩
    rw [hpl] at x11 zh zi H1 GW
    clear hpl
    go_upto_region 7 with (fail)
    obtain ⟨W1,hW1⟩ : ∃ W,wr.alloc (.cells #[.int .i64 tb,.string key,.string oth,.int .i64 ln,.int .i64 pr,.int .i64 bk,.slice Ay na cy,.int .i64 idle,.int .i64 hard,.int .u64 ck,.bool tl,.int .i64 pl,.int .i64 put,.int .i64 used] 77) = W:=⟨_,rfl⟩
    obtain ⟨B1,hB1⟩ : ∃ B,wr.heap.size = B:=⟨_,rfl⟩
    rw [hW1,hB1] at H1
    rw [hW1] at GW
    try rw [hW1]
    try rw [hB1]
    clear hW1 hB1 x0 x1 x2 x3 x4 x5 x6 x7 x8 x9 x10 x11 x12 x13
    have c0:=blk_cell H1.head 0 (v:=.int .i64 tb) rfl
    have c1:=blk_cell H1.head 1 (v:=.string key) rfl
    have c2:=blk_cell H1.head 2 (v:=.string oth) rfl
    have c3:=blk_cell H1.head 3 (v:=.int .i64 ln) rfl
    have c4:=blk_cell H1.head 4 (v:=.int .i64 pr) rfl
    have c5:=blk_cell H1.head 5 (v:=.int .i64 bk) rfl
    have c6:=blk_cell H1.head 6 (v:=.slice Ay na cy) rfl
    have c7:=blk_cell H1.head 7 (v:=.int .i64 idle) rfl
    have c8:=blk_cell H1.head 8 (v:=.int .i64 hard) rfl
    have c9:=blk_cell H1.head 9 (v:=.int .u64 ck) rfl
    have c10:=blk_cell H1.head 10 (v:=.bool tl) rfl
    have c11:=blk_cell H1.head 11 (v:=.int .i64 pl) rfl
    have c12:=blk_cell H1.head 12 (v:=.int .i64 put) rfl
    have c13:=blk_cell H1.head 13 (v:=.int .i64 used) rfl
    have f0:=fun (z:After W1) => wkeep z.h c0
    have f1:=fun (z:After W1) => wkeep z.h c1
    have f2:=fun (z:After W1) => wkeep z.h c2
    have f3:=fun (z:After W1) => wkeep z.h c3
    have f4:=fun (z:After W1) => wkeep z.h c4
    have f5:=fun (z:After W1) => wkeep z.h c5
    have f6:=fun (z:After W1) => wkeep z.h c6
    have f7:=fun (z:After W1) => wkeep z.h c7
    have f8:=fun (z:After W1) => wkeep z.h c8
    have f9:=fun (z:After W1) => wkeep z.h c9
    have f10:=fun (z:After W1) => wkeep z.h c10
    have f11:=fun (z:After W1) => wkeep z.h c11
    have f12:=fun (z:After W1) => wkeep z.h c12
    have f13:=fun (z:After W1) => wkeep z.h c13
    have zh2:=fun (z:After W1) => zh z.w
    have zi2:=fun (z:After W1) => zi z.w
    have HD:=Lib.hid hd
    clear H1 c0 c1 c2 c3 c4 c5 c6 c7 c8 c9 c10 c11 c12 c13 zh zi hd
    refine wp_region_after (by kernel_rfl) (by kernel_rfl) (Wider.refl W1) ?_
    repeat (go_big_quiet_step (first
     | (go_at_call 41; with_reducible exact quiet_after (zh2 _))
     | (go_at_call 42; with_reducible exact quiet_after (zi2 _))))
    refine wpQuiet_nil ?_
    rintro _ ⟨z,rfl⟩
    have G2:=GW.trans z.h
    clear zh2 zi2 f0 f1 f2 f3 f4 f5 f6 f7 f8 f9 f10 f11 f12 f13 u7
    have u7:=0
    go_wp2
    go_roundw
    case rel => exact ⟨i + 1,_,by omega,rfl,Lib.hid (HD.out.trans (min_if u hh ii)),by go_num,G2⟩
    case measure => simp [intOf]; omega
  · obtain rfl:i = nD:=by omega
    have q1:¬ (i:Int) < (i:Int):=by omega
    have hu:u = v:=by
     have:=HU.out
     rw [List.take_of_length_le (by have:=HX.out.2.2.1; omega)] at this
     rw [← this]; exact HX.out.1
    subst hu
    by_cases q:u = 9223372036854775807
    · subst q
      go_wp2
      exact HQ.out _ _ ⟨rfl,G⟩
    · have e1:(u == 9223372036854775807) = false:=by rw [beq_eq_false_iff_ne]; exact q
      go_wp2
      exact HQ.out _ _ ⟨by rw [if_neg q,decide_eq_true (show u ≠ 9223372036854775807 from q)],G⟩
theorem ydue_c {V w:World} {R:List Thing} {S:Nat} {s:StM} (h:StoreIs V w R S s):∃ d is,DueIs s.L d is ∧ ∀ W,Wider w W → Calls Tryz.prog 15 #[pS S] W fun e w' => e = .returned (.tuple #[.int .i64 d,.bool is]) ∧ Wider W w':=by
 obtain ⟨Xs,Ts,K,d,rfl,f⟩:=h
 refine ⟨_,_,?_,fun W g => zdue_a (K.quiet g) f rfl⟩
 rw [f.hL]
 exact dueV_is (fun h hh => f.time hh) rfl
def costT (y:ActT):Nat:=30 + min 6000 y.x.key.size + min 6000 y.x.oth.size + min 6000 y.x.args.length
def bulkT (l:List ActT):Nat:=(l.map costT).sum
theorem bulkT_take (l:List ActT) (k:Nat):bulkT (l.take k) ≤ bulkT l:=by
 have e:bulkT l = bulkT (l.take k) + bulkT (l.drop k):=by
  unfold bulkT; rw [← List.sum_append,← List.map_append,List.take_append_drop]
 omega
theorem bulkT_length (l:List ActT):30 * l.length ≤ bulkT l:=by
 induction l with
 | nil => simp
 | cons x l ih => unfold bulkT at *; simp only [List.map_cons,List.sum_cons,List.length_cons,costT]; omega
theorem takeT_next (l:List ActT) (k:Nat) (x:ActT) (h:l[k]? = some x):l.take (k + 1) = l.take k ++ [x]:=by
 obtain ⟨hk,rfl⟩:=List.getElem?_eq_some_iff.1 h
 rw [List.take_succ_eq_append_getElem hk]
theorem bulkT_next (l:List ActT) (k:Nat) (x:ActT) (h:l[k]? = some x):bulkT (l.take (k + 1)) = bulkT (l.take k) + (30 + min 6000 x.x.key.size + min 6000 x.x.oth.size + min 6000 x.x.args.length):=by
 rw [takeT_next l k x h]
 unfold bulkT
 simp [costT]
theorem ActTAt.flat {w:World} {a:Addr} {y:ActT} (h:ActTAt w a y) (i:Nat) (v:Value) (hv:(entC y.x y.av)[i]? = some v):w.cell? ⟨a.block,a.off + 1 + i,none⟩ = some v:=by
 have e:(a.add 1).add i = ⟨a.block,a.off + 1 + i,none⟩:=by
  rw [addadd a 1 i (by decide)]
  unfold Addr.add
  rw [if_neg (by omega),Nat.add_assoc]
 rw [← e]
 exact h.ce i v hv
theorem ActTAt.flatN {w:World} {a:Addr} {y:ActT} (h:ActTAt w a y):w.cell? ⟨a.block,a.off + 12,none⟩ = some (.int .i64 y.now):=by
 have e:a.add 12 = ⟨a.block,a.off + 12,none⟩:=by unfold Addr.add; rw [if_neg (by decide)]
 rw [← e]
 exact h.cn
set_option maxRecDepth 20000 in
theorem ylong_c (A:Option Addr) (n cap:Nat) (l:List ActT) {r:Bool} (w:World) (h:ActsTAt w A l) (hn:l.length = n) (hl:n ≤ 9223372036854775807) (hs:∀ x ∈ l,x.x.key.size ≤ 9223372036854775807 ∧ x.x.oth.size ≤ 9223372036854775807 ∧ x.x.args.length ≤ 9223372036854775807) (hr:decide (6000 ≤ bulkT l) = r) :
 Calls Tryz.prog 23 #[.slice A n cap] w fun e w' => e = .returned (.bool r) ∧ Wider w w':=by
 have HR:=Lib.hid hr
 have HS:=Lib.hid hs
 have HN:=Lib.hid hn
 have HH:=Lib.hid h
 clear hr hs hn h
 have H:=Wider.refl w
 go_enter Tryz.func23,Tryz.ntmps23
 go_wp2
 go_loopw [3,4] (fun o i wr => ∃ k:Nat,k ≤ n ∧ (∃ V:Nat,o = .int .i64 (V:Int) ∧ bulkT (l.take k) = V ∧ V ≤ 24041) ∧ i = .int .i64 (k:Int) ∧ Wider w wr) (fun _ i _ => n - (intOf i).toNat)
 case atStart => exact ⟨0,by omega,⟨0,by simp,by simp [bulkT],by omega⟩,by simp,H⟩
 case round =>
  clear H
  obtain ⟨k,hk,⟨V,rfl,hV,hV8⟩,rfl,H⟩:=hrel
  have HV:=Lib.hid hV
  clear hV
  by_cases c:k < n
  · have c1:decide ((k:Int) < (n:Int)) = true:=decide_eq_true (by omega)
    have i0:(0:Int) ≤ (k:Int):=by omega
    have i1:(k:Int) < (n:Int):=by omega
    by_cases d:V < 6000
    · have d1:decide ((V:Int) < 6000) = true:=decide_eq_true (by omega)
      have d2:decide (V < 6000) = true:=decide_eq_true d
      obtain ⟨x,hx⟩ : ∃ x,l[k]? = some x:=⟨l[k]'(by have:=HN.out; omega),List.getElem?_eq_getElem _⟩
      have hsz:=(HS.out x (List.mem_of_getElem? hx)).1
      have hsm:=(HS.out x (List.mem_of_getElem? hx)).2.1
      have hsn:=(HS.out x (List.mem_of_getElem? hx)).2.2
      cases A with
      | none => exact absurd (HH.out.none_ rfl) (by intro e; rw [e] at hx; simp at hx)
      | some a =>
        have hat:=(HH.out.cell a rfl k x hx).on H
        obtain ⟨Aa,na,ca,ea,hna,_⟩:=id hat.ar
        have hc:=hat.flat 1 _ rfl
        have hd:=hat.flat 2 _ rfl
        have he:=hat.flat 6 _ rfl
        rw [ea] at he
        replace hc:wr.cell? ⟨(a.add (k * 13)).block,(a.add (k * 13)).off + 1 + 1,none⟩ = some (.string x.x.key):=hc
        replace hd:wr.cell? ⟨(a.add (k * 13)).block,(a.add (k * 13)).off + 1 + 2,none⟩ = some (.string x.x.oth):=hd
        have st:=bulkT_next l k x hx
        rw [HV.out] at st
        clear hx hat
        obtain ⟨z,hz⟩ : ∃ z:Nat,min 6000 x.x.key.size = z:=⟨_,rfl⟩
        obtain ⟨y,hy⟩ : ∃ y:Nat,min 6000 x.x.oth.size = y:=⟨_,rfl⟩
        obtain ⟨u,hu⟩ : ∃ u:Nat,min 6000 x.x.args.length = u:=⟨_,rfl⟩
        have hz1:(if (x.x.key.size:Int) < 6000 then (x.x.key.size:Int) else 6000) = (z:Int):=by omega
        have hy1:(if (x.x.oth.size:Int) < 6000 then (x.x.oth.size:Int) else 6000) = (y:Int):=by omega
        have hu1:(if (na:Int) < 6000 then (na:Int) else 6000) = (u:Int):=by omega
        have hz2:z ≤ 6000:=by omega
        have hy2:y ≤ 6000:=by omega
        have hu2:u ≤ 6000:=by omega
        have hna2:na ≤ 9223372036854775807:=by omega
        rw [hz,hy,hu] at st
        have ST:=Lib.hid st
        obtain ⟨K,hK⟩ : ∃ K,x.x.key = K:=⟨_,rfl⟩
        obtain ⟨M,hM⟩ : ∃ M,x.x.oth = M:=⟨_,rfl⟩
        rw [hK] at hc hz1 hsz
        rw [hM] at hd hy1 hsm
        have m1:min 6000 (K.size:Int) = (z:Int):=by rw [← hK]; omega
        have m2:min 6000 (M.size:Int) = (y:Int):=by rw [← hM]; omega
        have m3:min 6000 (na:Int) = (u:Int):=by omega
        clear st hz hy hu hK hM hsn hna ea
        have w1:IntKind.i64.wrap ((V:Int) + 30) = (V:Int) + 30:=by simp [IntKind.wrap,IntKind.bits,IntKind.signed]; omega
        have w2:IntKind.i64.wrap ((V:Int) + 30 + (z:Int)) = (V:Int) + 30 + (z:Int):=by simp [IntKind.wrap,IntKind.bits,IntKind.signed]; omega
        have w3:IntKind.i64.wrap ((V:Int) + 30 + (z:Int) + (y:Int)) = (V:Int) + 30 + (z:Int) + (y:Int):=by simp [IntKind.wrap,IntKind.bits,IntKind.signed]; omega
        have w4:IntKind.i64.wrap ((V:Int) + 30 + (z:Int) + (y:Int) + (u:Int)) = (V:Int) + 30 + (z:Int) + (y:Int) + (u:Int):=by simp [IntKind.wrap,IntKind.bits,IntKind.signed]; omega
        have HW:=Lib.hid (And.intro w1 (And.intro w2 (And.intro w3 (And.intro w4 (And.intro m1 (And.intro m2 m3))))))
        clear m1 m2 m3
        go_upto_region 5 with (fail)
        go_still_tail 29,(by kernel_rfl)
        change wpList _ _ _ _ _ wr.drew
        have H2:=H.drew
        clear hc hd he H
        go_wp2
        go_roundw
        case rel => exact ⟨k + 1,by omega,⟨V + (30 + z + y + u),by obtain ⟨w1,w2,w3,w4,m1,m2,m3⟩:=HW.out; simp [m1,m2,m3,w2,w3,w4]; omega,ST.out,by omega⟩,by go_num,H2⟩
        case measure => simp [intOf]; omega
    · have d1:decide ((V:Int) < 6000) = false:=decide_eq_false (by omega)
      have d2:decide (V < 6000) = false:=decide_eq_false d
      have hr2:r = true:=by
       rw [← HR.out]; apply decide_eq_true
       have:=bulkT_take l k
       rw [HV.out] at this; omega
      subst hr2
      have d3:decide ((6000:Int) ≤ (V:Int)) = true:=decide_eq_true (by omega)
      have d4:decide (6000 ≤ V) = true:=decide_eq_true (by omega)
      go_wp2
      go_ret
      exact ⟨rfl,H⟩
  · have c1:decide ((k:Int) < (n:Int)) = false:=decide_eq_false (by omega)
    have e:=HV.out
    rw [List.take_of_length_le (by have:=HN.out; omega)] at e
    have hr2:decide (6000 ≤ V) = r:=by rw [← HR.out,e]
    cases r with
    | true =>
      have d3:decide ((6000:Int) ≤ (V:Int)) = true:=decide_eq_true (by have:=of_decide_eq_true hr2; omega)
      go_wp2
      go_ret
      exact ⟨rfl,H⟩
    | false =>
      have d3:decide ((6000:Int) ≤ (V:Int)) = false:=decide_eq_false (by have:=of_decide_eq_false hr2; omega)
      go_wp2
      go_ret
      exact ⟨rfl,H⟩
theorem putS_cap (s:StM) (x:EntV) (now:Int):(putS s x now).cap = s.cap ∧ (putS s x now).id = s.id:=by
 unfold putS; split <;> exact ⟨rfl,rfl⟩
theorem putS_n (s:StM) (x:EntV) (now:Int):(putS s x now).n ≤ s.n + 1:=by
 unfold putS; split
 · exact Nat.le_refl _
 · exact Nat.le_succ _
theorem ActTAt.ent {w:World} {a:Addr} {y:ActT} (h:ActTAt w a y):∃ A n cap,y.av = .slice A n cap ∧ w.cell? ⟨a.block,a.off + 1,none⟩ = some (.int .i64 y.x.tb) ∧ w.cell? ⟨a.block,a.off + 1 + 1,none⟩ = some (.string y.x.key) ∧ w.cell? ⟨a.block,a.off + 1 + 2,none⟩ = some (.string y.x.oth) ∧ w.cell? ⟨a.block,a.off + 1 + 3,none⟩ = some (.int .i64 y.x.ln) ∧ w.cell? ⟨a.block,a.off + 1 + 4,none⟩ = some (.int .i64 y.x.pr) ∧ w.cell? ⟨a.block,a.off + 1 + 5,none⟩ = some (.int .i64 y.x.bk) ∧ w.cell? ⟨a.block,a.off + 1 + 6,none⟩ = some (.slice A n cap) ∧ w.cell? ⟨a.block,a.off + 1 + 7,none⟩ = some (.int .i64 y.x.idle) ∧ w.cell? ⟨a.block,a.off + 1 + 8,none⟩ = some (.int .i64 y.x.hard) ∧ w.cell? ⟨a.block,a.off + 1 + 9,none⟩ = some (.int .u64 y.x.ck) ∧ w.cell? ⟨a.block,a.off + 1 + 10,none⟩ = some (.bool y.x.tl):=by
 obtain ⟨A,n,cap,e,_⟩:=id h.ar
 exact ⟨A,n,cap,e,h.flat 0 _ rfl,h.flat 1 _ rfl,h.flat 2 _ rfl,h.flat 3 _ rfl,h.flat 4 _ rfl,h.flat 5 _ rfl,by rw [← e]; exact h.flat 6 _ rfl,h.flat 7 _ rfl,h.flat 8 _ rfl,h.flat 9 _ rfl,h.flat 10 _ rfl⟩
set_option maxRecDepth 20000 in
theorem ymade_c {V w:World} {R:List Thing} (H:Own V w R) {t:TabV} {kv wv:Value} {zs:List Int} (hk:NumsAt V kv t.keys) (hw:NumsAt V wv zs) (h1:t.keys.length < 1000) (h2:zs.length < 1000) {A:Option Addr} {n c:Nat} {l:List ActT} (hA:ActsTAt V A l) (hn:l.length = n) (hl:n < 90000) (hz:∀ y ∈ l,y.Ok) :
 Calls Tryz.prog 24 #[.agg (tabC t kv),wv,.slice A n c] w fun e w' => ∃ p,e = .returned p ∧ ((p = .pointer none ∧ Wider w w') ∨ ∃ S s,p = pS S ∧ t.cap = (s.cap:Int) ∧ s.n ≤ n ∧ StoreIs V w' R S s):=by
 have HA:=Lib.hid hA
 have HN:=Lib.hid hn
 have HZ:=Lib.hid hz
 have g0:=(Wider.refl w).alloc (.cells (tabC t kv) 36)
 have H1:=H.quiet g0
 have hk1:=hk.on H1.wider
 have hw1:=hw.on H1.wider
 obtain ⟨KA,kn,kc,ekv,hkn⟩:=id hk1
 obtain ⟨WA,wn,wc,ewv,hwn⟩:=id hw1
 have zn:=ynew_c H1 (t:=t) (kv:=kv) (wv:=wv) (zs:=zs) (fun W k => hk.on k.wider) (fun W k => hw.on k.wider) h1 h2
 subst ekv ewv
 obtain ⟨id,kind,keys,cap,miss⟩:=t
 have zn:Calls Tryz.prog 11 #[.agg #[.int .i64 id,.int .u8 kind,.slice KA kn kc,.int .i64 cap,.int .i64 miss],.slice WA wn wc] (w.alloc (.cells #[.int .i64 id,.int .u8 kind,.slice KA kn kc,.int .i64 cap,.int .i64 miss] 36)) fun e w' => ∃ p r,e = .returned (.tuple #[p,.int .i64 r]) ∧ ((r = 3 ∧ p = .pointer none ∧ Wider _ w') ∨ ∃ (S:Nat) (km:ByteArray → ByteArray → Int → Int → Bool) (c:Nat),r = 0 ∧ p = pS S ∧ cap = (c:Int) ∧ StoreIs V w' R S ⟨id,km,c,[],0⟩):=zn
 show Calls Tryz.prog 24 #[.agg #[.int .i64 id,.int .u8 kind,.slice KA kn kc,.int .i64 cap,.int .i64 miss],.slice WA wn wc,.slice A n c] w _
 have g0:Wider w (w.alloc (.cells #[.int .i64 id,.int .u8 kind,.slice KA kn kc,.int .i64 cap,.int .i64 miss] 36)):=g0
 clear H hA hn hz H1 hk1 hw1 hkn hwn hk hw h1 h2
 go_enter Tryz.func24,Tryz.ntmps24
 go_upto_region 2 with (first
  | (go_at_call 11; ((with_reducible refine zn.mono ?_); rintro e w1 ⟨p,r,rfl,hD⟩; clear zn)))
 rcases hD with ⟨rfl,rfl,g⟩ | ⟨S,km,cc,rfl,rfl,hc,H0⟩
 · have G:=g0.trans g
   go_wp2
   go_ret
   exact ⟨_,rfl,.inl ⟨rfl,G⟩⟩
 · have HC:=Lib.hid hc
   clear hc g0
   go_wp2
   go_loopw [9] (fun i wr => ∃ (k:Nat) (s:StM),k ≤ n ∧ i = .int .i64 (k:Int) ∧ Hid (cap = (s.cap:Int)) ∧ Hid (s.n ≤ k) ∧ StoreIs V wr R S s) (fun i _ => n - (intOf i).toNat)
   case atStart => exact ⟨0,_,Nat.zero_le _,rfl,HC,Lib.hid (Nat.le_refl _),H0⟩
   case round =>
    clear H0 HC
    obtain ⟨k,s,k0,rfl,HS,HK,K⟩:=hrel
    by_cases q:k < n
    · have q0:(0:Int) ≤ (k:Int):=by omega
      have q1:(k:Int) < (n:Int):=by omega
      obtain ⟨y,hy⟩ : ∃ y,l[k]? = some y:=⟨l[k]'(by have:=HN.out; omega),List.getElem?_eq_getElem _⟩
      cases A with
      | none => exact absurd (HA.out.none_ rfl) (by intro e; rw [e] at hy; simp at hy)
      | some a =>
        have at_:=(HA.out.cell a rfl k y hy).on K.wider
        have ho:=(HZ.out y (List.mem_of_getElem? hy)).x
        obtain ⟨Aa,na,ca,ea,c0,c1,c2,c3,c4,c5,c6,c7,c8,c9,c10⟩:=at_.ent
        have cw:=at_.c0
        have cn:=at_.flatN
        have ar:=at_.ar
        have ar0:=(HA.out.cell a rfl k y hy).ar
        have hN:s.n < 99990:=by have:=HK.out; omega
        rw [ea] at ar ar0
        have HN9:=Lib.hid hN
        obtain ⟨what,⟨xtb,xkey,xoth,xln,xpr,xbk,xargs,xidle,xhard,xck,xtl⟩,av,now⟩:=y
        clear at_ hy ea
        by_cases w0:what = 0
        · subst w0
          go_upto_region 9 with (fail)
          go_still_tail 11,(by kernel_rfl)
          change wpList _ _ _ _ _ wr.drew
          have K2:=K.quiet (Wider.refl wr).drew
          have zp:=yput_c K2 hN (fun W k => ar0.on k.wider) ho now
          clear K c0 c1 c2 c3 c4 c5 c6 c7 c8 c9 c10 cw cn
          go_wp2_with (first
           | (go_at_call 10; ((with_reducible refine zp.mono ?_); rintro e w3 ⟨rfl,K3⟩; clear zp K2)))
          go_roundw
          case rel => exact ⟨k + 1,_,by omega,by go_num,by rw [(putS_cap s _ now).1]; exact HS,Lib.hid (Nat.le_trans (putS_n s _ now) (Nat.succ_le_succ HK.out)),K3⟩
          case measure => simp [intOf]; omega
        · by_cases w1:what = 1
          · subst w1
            have zp:=ydel_c K hN ar ho
            go_wp2_with (first
             | (go_at_call 16; ((with_reducible refine zp.mono ?_); rintro e w3 ⟨⟨bb,rfl⟩,K3⟩; clear zp K)))
            go_roundw
            case rel => exact ⟨k + 1,{ s with L:=butE s.L ⟨xtb,xkey,xoth,xln,xpr,xbk,xargs,xidle,xhard,xck,xtl⟩ },by omega,by go_num,HS,Lib.hid (Nat.le_succ_of_le HK.out),K3⟩
            case measure => simp [intOf]; omega
          · by_cases w2:what = 2
            · subst w2
              go_upto_region 13 with (fail)
              go_still_tail 12,(by kernel_rfl)
              change wpList _ _ _ _ _ wr.drew
              have K2:=K.quiet (Wider.refl wr).drew
              have zp:=yfind_c K2 hN xkey ho.key now
              clear K c0 c1 c2 c3 c4 c5 c6 c7 c8 c9 c10 cw cn
              go_wp2_with (first
               | (go_at_call 13; ((with_reducible refine zp.mono ?_); rintro e w3 ⟨fx,fa,fb,fL,rfl,K3⟩; clear zp K2)))
              go_roundw
              case rel => exact ⟨k + 1,{ s with L:=fL },by omega,by go_num,HS,Lib.hid (Nat.le_succ_of_le HK.out),K3⟩
              case measure => simp [intOf]; omega
            · have e0:((what:Int) == 0) = false:=by rw [beq_eq_false_iff_ne]; omega
              have e1:((what:Int) == 1) = false:=by rw [beq_eq_false_iff_ne]; omega
              have e2:((what:Int) == 2) = false:=by rw [beq_eq_false_iff_ne]; omega
              by_cases w3:what = 3
              · subst w3
                have zp:=yexpire_c K hN now rfl
                go_wp2_with (first
                 | (go_at_call 17; ((with_reducible refine zp.mono ?_); rintro e w4 ⟨gB,gc,gG,rfl,_,K3⟩; clear zp K)))
                go_roundw
                case rel => exact ⟨k + 1,{ s with L:=restT (clampT now) s.L },by omega,by go_num,HS,Lib.hid (Nat.le_succ_of_le HK.out),K3.less⟩
                case measure => simp [intOf]; omega
              · have e3:((what:Int) == 3) = false:=by rw [beq_eq_false_iff_ne]; omega
                go_wp2
                go_roundw
                case rel => exact ⟨k + 1,s,by omega,by go_num,HS,Lib.hid (Nat.le_succ_of_le HK.out),K⟩
                case measure => simp [intOf]; omega
    · obtain rfl:k = n:=by omega
      have q1:¬ (k:Int) < (k:Int):=by omega
      go_wp2
      go_ret
      exact ⟨_,rfl,.inr ⟨S,rfl,s,HS.out,HK.out,K⟩⟩
theorem rowY_slice {w:World} {E:TypeId} {k n:Nat} {v:Value} {xs:List Value} (h:w.ownsRow 0 E k v n xs) (hn:0 < n) :
 ∃ B c,v = .slice (some ⟨B,0,none⟩) n c ∧ ∀ j u,xs[j]? = some u → w.cell? ⟨B,j,none⟩ = some u:=by
 have hh:=h
 rcases h.2 with ⟨_,q2⟩ | ⟨g,cap,cur,rfl,hb,hg,r⟩
 · omega
 · refine ⟨g,cap,rfl,fun j u hu => ?_⟩
   have q:=hh.cells (g:=g) rfl j u hu
   rwa [Addr.add_lit,Nat.zero_add] at q
theorem ents_at {V w:World} {L:List Thing} {B:Option Addr} {n c:Nat} {E:List EntM} (H:Own V w L) (hm:∀ t ∈ entsT (.slice B n c) n E,t ∈ L) (hn:E.length = n):EntsAt w B (E.map (·.x)):=fun j x hj => by
 rw [List.getElem?_map] at hj
 cases q:E[j]? with
 | none => rw [q] at hj; cases hj
 | some e =>
   rw [q] at hj
   obtain rfl:e.x = x:=by simpa using hj
   have hjl:=(List.getElem?_eq_some_iff.1 q).1
   obtain ⟨Bk,cc,eB,hc⟩:=rowY_slice (H.holds _ (hm _ (.head _))) (by omega)
   injection eB with e1
   refine ⟨Bk,e1,e.av,?_,fun i hi => ?_⟩
   · exact ArgsAt.row (H.holds (argT e) (hm _ (.tail _ (List.mem_map.2 ⟨e,List.mem_of_getElem? q,rfl⟩)))) rfl
   · have k:=cellsE_at E j e q i hi
     obtain ⟨v,hv⟩ : ∃ v,(entC e.x e.av)[i]? = some v:=⟨(entC e.x e.av)[i]'(show i < 11 from hi),Array.getElem?_eq_getElem _⟩
     rw [hv] at k ⊢
     exact hc _ _ k
end Go.Proofs.YtbnpelciceblfaaGreat
