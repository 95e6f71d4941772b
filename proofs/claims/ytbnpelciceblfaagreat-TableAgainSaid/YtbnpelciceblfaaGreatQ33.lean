/- YGone YRow ZKind ZAwa -/
import Derived.Test.YtbnpelciceblfaaGreatQ32
namespace Go.Proofs.YtbnpelciceblfaaGreat
set_option linter.unusedVariables false
open Go.ChangeShapes Go.WideShapes Go.ChangeAt Go.RowKit Go.Joins
set_option maxHeartbeats 64000000
theorem cellsG_cons (g:GoneM) (l:List GoneM):cellsG (g :: l) = (entC g.e.x g.e.av).toList ++ [.int .i64 g.tag] ++ cellsG l:=rfl
theorem cellsG_at:∀ (l:List GoneM) (j:Nat) (g:GoneM),l[j]? = some g → (∀ i,i < 11 → (cellsG l)[j * 12 + i]? = (entC g.e.x g.e.av)[i]?) ∧ (cellsG l)[j * 12 + 11]? = some (.int .i64 g.tag)
 | [],j,g,h => by simp at h
 | y :: l,0,g,h => by
   obtain rfl:y = g:=by simpa using h
   refine ⟨fun i hi => ?_,?_⟩
   · rw [cellsG_cons,Nat.zero_mul,Nat.zero_add,List.getElem?_append_left (show i < 12 by omega),List.getElem?_append_left (show i < 11 from hi)]
     simp
   · rfl
 | y :: l,j + 1,g,h => by
   have h:l[j]? = some g:=by simpa using h
   obtain ⟨a,b⟩:=cellsG_at l j g h
   refine ⟨fun i hi => ?_,?_⟩
   · rw [cellsG_cons,List.getElem?_append_right (show 12 ≤ (j + 1) * 12 + i by omega)]
     show (cellsG l)[(j + 1) * 12 + i - 12]? = _
     rw [show (j + 1) * 12 + i - 12 = j * 12 + i by omega]
     exact a i hi
   · rw [cellsG_cons,List.getElem?_append_right (show 12 ≤ (j + 1) * 12 + 11 by omega)]
     show (cellsG l)[(j + 1) * 12 + 11 - 12]? = _
     rw [show (j + 1) * 12 + 11 - 12 = j * 12 + 11 by omega]
     exact b
structure GoneAt (w:World) (B j:Nat) (x:EntV) (tag:Int):Prop where
 ent:∃ A n cap,x.args.length = n ∧ ArgsAt w (.slice A n cap) x.args ∧ w.cell? ⟨B,j * 12,none⟩ = some (.int .i64 x.tb) ∧ w.cell? ⟨B,j * 12 + 1,none⟩ = some (.string x.key) ∧ w.cell? ⟨B,j * 12 + 2,none⟩ = some (.string x.oth) ∧ w.cell? ⟨B,j * 12 + 3,none⟩ = some (.int .i64 x.ln) ∧ w.cell? ⟨B,j * 12 + 4,none⟩ = some (.int .i64 x.pr) ∧ w.cell? ⟨B,j * 12 + 5,none⟩ = some (.int .i64 x.bk) ∧ w.cell? ⟨B,j * 12 + 6,none⟩ = some (.slice A n cap) ∧ w.cell? ⟨B,j * 12 + 7,none⟩ = some (.int .i64 x.idle) ∧ w.cell? ⟨B,j * 12 + 8,none⟩ = some (.int .i64 x.hard) ∧ w.cell? ⟨B,j * 12 + 9,none⟩ = some (.int .u64 x.ck) ∧ w.cell? ⟨B,j * 12 + 10,none⟩ = some (.bool x.tl)
 tag:w.cell? ⟨B,j * 12 + 11,none⟩ = some (.int .i64 tag)
theorem gones_at {V w:World} {L:List Thing} {B:Option Addr} {n c:Nat} {G:List GoneM} (H:Own V w L) (hm:∀ t ∈ gonesT (.slice B n c) n G,t ∈ L) (hn:G.length = n) {j:Nat} {x:EntV} {tag:Int} (hj:(G.map fun g => (g.e.x,g.tag))[j]? = some (x,tag)):∃ Bk,B = some ⟨Bk,0,none⟩ ∧ GoneAt w Bk j x tag:=by
 rw [List.getElem?_map] at hj
 cases q:G[j]? with
 | none => rw [q] at hj; cases hj
 | some g =>
   rw [q] at hj
   have hj:(g.e.x,g.tag) = (x,tag):=by simpa using hj
   obtain ⟨rfl,rfl⟩ : g.e.x = x ∧ g.tag = tag:=by simpa using hj
   have hjl:=(List.getElem?_eq_some_iff.1 q).1
   obtain ⟨Bk,cc,eB,hc⟩:=rowY_slice (H.holds _ (hm _ (.head _))) (by omega)
   injection eB with e1
   obtain ⟨a,b⟩:=cellsG_at G j g q
   have ar:ArgsAt w g.e.av g.e.x.args:=ArgsAt.row (H.holds (argT g.e) (hm _ (.tail _ (List.mem_map.2 ⟨g,List.mem_of_getElem? q,rfl⟩)))) rfl
   obtain ⟨A,nn,cap,ea,hnn,_⟩:=id ar
   have f:=fun i (hi:i < 11) v (hv:(entC g.e.x g.e.av)[i]? = some v) => hc (j * 12 + i) v ((a i hi).trans hv)
   rw [ea] at ar f
   exact ⟨Bk,e1,⟨⟨A,nn,cap,hnn,ar,f 0 (by decide) _ rfl,f 1 (by decide) _ rfl,f 2 (by decide) _ rfl,f 3 (by decide) _ rfl,f 4 (by decide) _ rfl,f 5 (by decide) _ rfl,f 6 (by decide) _ rfl,f 7 (by decide) _ rfl,f 8 (by decide) _ rfl,f 9 (by decide) _ rfl,f 10 (by decide) _ rfl⟩,hc _ _ b⟩⟩
theorem StoreIs.blk {V w:World} {R:List Thing} {S:Nat} {s:StM} (h:StoreIs V w R S s) (C:Array Value) (t:TypeId):StoreIs V (w.alloc (.cells C t)) (blkT w.heap.size C t :: R) S s:=by
 obtain ⟨Xs,Ts,H,k⟩:=h
 refine ⟨Xs,Ts,(H.blk C t).perm ?_,k⟩
 have p1:(blkT w.heap.size C t :: (Ts ++ (Xs ++ R))).Perm (Ts ++ (blkT w.heap.size C t :: (Xs ++ R))):=List.perm_middle.symm
 have p2:(blkT w.heap.size C t :: (Xs ++ R)).Perm (Xs ++ (blkT w.heap.size C t :: R)):=List.perm_middle.symm
 exact p1.trans (p2.append_left Ts)
theorem xexpire_c {V w:World} {R Xs:List Thing} {S:Nat} {s:StM} (h:StoreX V w R Xs S s) (hN:s.n < 99990) (now:Int) {n:Nat} (hn:(outT (clampT now) s.L).length = n) :
 Calls Tryz.prog 17 #[pS S,.int .i64 now] w fun e w' => ∃ B c G,e = .returned (.slice B n c) ∧ (G.map fun g => (g.e.x,g.tag)) = outT (clampT now) s.L ∧ Own V w' (Xs ++ (gonesT (.slice B n c) n G ++ R)):=by
 obtain ⟨Ts,K,d,rfl,f⟩:=h
 refine (zexpire_a K f hN now).mono ?_
 rintro e w' ⟨B,m,c,G,A,hv,Es,rfl,hm,hG,hA,f2,K2⟩
 rw [← f.hL] at hG hA
 have em:m = n:=by rw [← hm,← hn,← hG,List.length_map]
 subst em
 refine ⟨B,c,G,rfl,hG,?_⟩
 have K3:=own_rest (K2.perm (perm_mid _ _ _))
 exact K3.perm (perm_mid _ _ _)
theorem ycopyx_c {V w:World} {R:List Thing} {S T:Nat} {s t:StM} (h:StoreTwo V w R T t S s) (hN:t.n < 99990) (now:Int) {n:Nat} (hn:(outT (clampT now) t.L).length = n) :
 Calls Tryz.prog 17 #[pS T,.int .i64 now] w fun e w' => ∃ B c,e = .returned (.slice B n c) ∧ StoreIs V w' R S s:=by
 obtain ⟨Us,Xs,h1,k2⟩:=h
 refine (xexpire_c h1 hN now hn).mono ?_
 rintro e w' ⟨B,c,G,rfl,_,K⟩
 have K2:=own_rest (K.perm (perm_mid _ _ _))
 exact ⟨B,c,rfl,Xs,Us,K2.perm (perm_mid _ _ _),k2⟩
def StoK (k:Int) (ws:List Nat) (T:List Thing) (S:Nat) (s:StM):Prop:=∃ Xs,∃ d:StoD,T = d.things S ++ Xs ∧ StF d Xs s ∧ d.t.kind = k ∧ d.ws = ws
def StoreK (k:Int) (ws:List Nat) (V w:World) (R:List Thing) (S:Nat) (s:StM):Prop:=∃ T,Own V w (T ++ R) ∧ StoK k ws T S s
section
variable {V w:World} {R:List Thing} {S:Nat} {s:StM} {k:Int} {ws:List Nat}
theorem StoreK.is (h:StoreK k ws V w R S s):StoreIs V w R S s:=by
 obtain ⟨T,H,Xs,d,rfl,f,_,_⟩:=h
 rw [List.append_assoc] at H
 exact ⟨Xs,_,H,d,rfl,f⟩
theorem StoreK.quiet {w':World} (h:StoreK k ws V w R S s) (g:Wider w w'):StoreK k ws V w' R S s:=by
 obtain ⟨T,H,q⟩:=h; exact ⟨T,H.quiet g,q⟩
theorem StoreK.rest (h:StoreK k ws V w R S s):Own V w R:=h.is.rest
theorem StoreK.wider (h:StoreK k ws V w R S s):Wider V w:=h.is.wider
theorem knew_c (H:Own V w R) (t:TabV) {KA:Option Addr} {kn kc:Nat} (hk:∀ W,Own V W R → NumsAt W (.slice KA kn kc) t.keys) (hl:kn < 1000) {WA:Option Addr} {wn wc:Nat} {zs:List Int} (hz:∀ W,Own V W R → NumsAt W (.slice WA wn wc) zs) (hl2:wn < 1000) (hm:MayTab t zs) :
 Calls Tryz.prog 11 #[.agg (tabC t (.slice KA kn kc)),.slice WA wn wc] w fun e w' => ∃ S,e = .returned (.tuple #[pS S,.int .i64 0]) ∧ StoreK t.kind (zs.map Int.toNat) V w' R S ⟨t.id,kmOf t.kind (zs.map Int.toNat),t.cap.toNat,[],0⟩:=by
 refine (znew_k H t hk hl hz hl2).mono ?_
 rintro e w' (⟨h,_,_⟩ | ⟨_,S,rfl,Xs,Ts,K,d,rfl,f,h1,h2⟩)
 · exact absurd hm h
 · exact ⟨S,rfl,_,by rw [List.append_assoc]; exact K,Xs,d,rfl,f,h1,h2⟩
theorem kput_c (h:StoreK k ws V w R S s) (hN:s.n < 99990) {x:EntV} {av:Value} (ha:∀ W,Own V W R → ArgsAt W av x.args) (ho:x.Ok) (hm:mayT s x = true) (hno:¬ hasE s.L x) (room:s.L.length < s.cap) (now:Int) :
 Calls Tryz.prog 10 #[pS S,entV x av,.int .i64 now] w fun e w' => e = .returned (.int .i64 0) ∧ StoreK k ws V w' R S { s with L:=s.L ++ [⟨x,clampT now,clampT now⟩],n:=s.n + 1 } :=by
 have hr:=h.rest
 obtain ⟨T,K,Xs,d,rfl,f,h1,h2⟩:=h
 rw [List.append_assoc] at K
 obtain ⟨A,n,c,rfl,hn,_⟩:=id (ha w hr)
 have hl:s.L.length = d.E.length:=by rw [f.hL,List.length_map]
 refine (zputN_a K f hN x ha ho hm (fun p hp o => hno ⟨HeldP.m p,by rw [f.hL]; exact List.mem_map.2 ⟨p,hp,rfl⟩,o⟩) (by omega) now).mono ?_
 rintro e w' ⟨rfl,BI,cI,hv,Es2,_,K2,he⟩
 have ep:putS s x now = { s with L:=s.L ++ [⟨x,clampT now,clampT now⟩],n:=s.n + 1 } :=by
  unfold putS
  rw [if_pos ⟨hm,.inr room⟩]
  unfold putE
  rw [butE_none hno]
 rw [← ep]
 exact ⟨rfl,_,by rw [List.append_assoc]; exact K2,_,_,rfl,f.snoc (hv:=hv) (List.Sublist.refl _) (by rw [butE_none hno,f.hL]) hm ho (.inr room) he,h1,h2⟩
def LookO (k:Int) (ws:List Nat) (L:List HeldM) (key:ByteArray) (o:Option HeldM):Prop:=∀ E:List HeldP,E.map HeldP.m = L → (E.Pairwise fun a b => a.pl < b.pl) → ∀ v b,FindK k ws (E.map HeldP.kp) key v b → match o with | none => b = false | some g => b = true ∧ ∀ (i:Nat) (h:HeldP),E[i]? = some h → (h.pl:Int) = v → HeldP.m h = g
theorem look_at {E:List HeldP} {L:List HeldM} {key:ByteArray} {o:Option HeldM} {r:Int} (h:LookO k ws L key o) (hE:E.map HeldP.m = L) (asc:E.Pairwise fun a b => a.pl < b.pl) (hk:key.size = ws.sum) (f:FoundS k ws E key r):(r = -1 ∧ o = none) ∨ ∃ i p,r = ((i:Nat):Int) ∧ E[i]? = some p ∧ o = some (HeldP.m p):=by
 rcases f with ⟨n,_⟩ | ⟨_,v,b,hf,c⟩
 · exact absurd hk n
 · have q:=h E hE asc v b hf
   rcases c with ⟨rfl,rfl⟩ | ⟨rfl,i,p,hi,hp,rfl⟩
   · cases o with
     | none => exact .inl ⟨rfl,rfl⟩
     | some g => exact absurd q.1 (by decide)
   · cases o with
     | none => exact Bool.noConfusion (show true = false from q)
     | some g => exact .inr ⟨i,p,rfl,hi,by rw [q.2 i p hi hp]⟩
theorem klook_c (h:StoreK k ws V w R S s) (hN:s.n < 99990) (key:ByteArray) (hk:key.size = ws.sum) (hk2:key.size < 1000) {o:Option HeldM} (ho:LookO k ws s.L key o) :
 Calls Tryz.prog 14 #[pS S,.string key] w fun e w' => (∃ x A n c,x = (match o with | none => zeroX | some g => g.x) ∧ e = .returned (.tuple #[entV x (.slice A n c),.bool o.isSome])) ∧ StoreK k ws V w' R S s:=by
 obtain ⟨T,K,Xs,d,rfl,f,h1,h2⟩:=h
 rw [List.append_assoc] at K
 refine (zlook_a K f hN key (by omega)).mono ?_
 rintro e w' ⟨r,Es2,hf,he,c⟩
 rw [h1,h2] at hf
 have f2:StF { d with Es:=Es2 } Xs s:={ f with eng:=he }
 rcases look_at ho f.hL.symm f.asc hk hf with ⟨rfl,rfl⟩ | ⟨i,p,rfl,hp,rfl⟩
 · rcases c with ⟨_,rfl,K2⟩ | ⟨i,h,BI,na,cI,q,_⟩
   · exact ⟨⟨_,_,_,_,rfl,rfl⟩,_,by rw [List.append_assoc]; exact K2,Xs,_,rfl,f2,h1,h2⟩
   · omega
 · rcases c with ⟨q,_⟩ | ⟨i2,h,BI,na,cI,q,hi,_,rfl,K2⟩
   · omega
   · have e:i2 = i:=by omega
     subst e
     rw [hp] at hi
     cases hi
     exact ⟨⟨_,_,_,_,rfl,rfl⟩,_,by rw [List.append_assoc]; exact own_unbox K2,Xs,_,rfl,f2,h1,h2⟩
theorem kfind_c (h:StoreK k ws V w R S s) (hN:s.n < 99990) (key:ByteArray) (hk:key.size = ws.sum) (hk2:key.size < 1000) {g:HeldM} (hL:s.L = [g]) (ho:LookO k ws s.L key (some g)) (now:Int) :
 Calls Tryz.prog 13 #[pS S,.string key,.int .i64 now] w fun e w' => (∃ v,e = .returned v) ∧ StoreK k ws V w' R S { s with L:=[{ g with found:=clampT now }] } :=by
 obtain ⟨T,K,Xs,d,rfl,f,h1,h2⟩:=h
 rw [List.append_assoc] at K
 refine (zfind_a K f hN key (by omega) now).mono ?_
 rintro e w' ⟨r,Es2,hf,he,c⟩
 rw [h1,h2] at hf
 rcases look_at ho f.hL.symm f.asc hk hf with ⟨rfl,q⟩ | ⟨i,p,rfl,hp,q⟩
 · cases q
 · rcases c with ⟨q,_⟩ | ⟨i2,h,BI,na,cI,q2,hi,_,rfl,K2⟩
   · omega
   · have e:i2 = i:=by omega
     subst e
     rw [hp] at hi
     cases hi
     have eg:HeldP.m p = g:=by cases q; rfl
     have hL2:d.E.map HeldP.m = [g]:=by rw [← f.hL,hL]
     have l1:d.E.length = 1:=by have:=congrArg List.length hL2; rw [List.length_map] at this; exact this
     obtain ⟨hi2,ep⟩:=List.getElem?_eq_some_iff.1 hp
     have i0:i2 = 0:=by omega
     subst i0
     have eE:d.E.set 0 (p.at_ (clampT now)) = [p.at_ (clampT now)]:=by
      match hE:d.E,l1 with
      | [y],_ => rfl
     have f2:=f.used hp (clampT_le now) he
     have eL:(d.E.set 0 (p.at_ (clampT now))).map HeldP.m = [{ g with found:=clampT now }]:=by
      rw [eE,← eg]; rfl
     rw [eL] at f2
     exact ⟨⟨_,rfl⟩,_,by rw [List.append_assoc]; exact own_unbox K2,Xs,_,rfl,f2,h1,h2⟩
end
theorem StoreK.less {V w:World} {R:List Thing} {S:Nat} {s:StM} {k:Int} {ws:List Nat} {t:Thing} (h:StoreK k ws V w (t :: R) S s):StoreK k ws V w R S s:=by
 obtain ⟨T,H,q⟩:=h
 exact ⟨T,own_unbox (A:=[]) (B:=T) (t:=t) (R:=R) H,q⟩
theorem nums_blk {V W:World} {L:List Thing} {B n c:Nat} {zs:List Int} {T:TypeId} (H:Own V W L) (hm:blkT B (intsZ zs).toArray T ∈ L) (hn:zs.length = n):NumsAt W (.slice (some ⟨B,0,none⟩) n c) zs:=by
 refine ⟨_,_,_,rfl,hn,fun e => (by cases e),fun a ea j z hj => ?_⟩
 cases ea
 have k:=blk_cell (H.holds _ hm) j (v:=.int .i64 z) (by
  show (intsZ zs).toArray[j]? = _
  rw [List.getElem?_toArray]
  unfold intsZ
  rw [List.getElem?_map,hj]; rfl)
 have e:(⟨B,0,none⟩ : Addr).add j = ⟨B,j,none⟩:=by unfold Addr.add; split <;> simp_all
 rw [e]; exact k
theorem zmakeI1 (w:World):(Instr.makeSlice 34 (.int .i64 1) (.int .i64 1)).run Tryz.prog w = .ok (.slice (some ⟨w.heap.size,0,none⟩) 1 1) (w.alloc (.cells #[.int .i64 0] 3)):=by
 kernel_rfl
set_option maxRecDepth 20000 in
theorem of1_c {V w:World} {R:List Thing} (H:Own V w R) {kind room:Int} {WA:Option Addr} {wc:Nat} {zs:List Int} (hz:∀ W,Own V W R → NumsAt W (.slice WA 1 wc) zs) (hm:MayTab ⟨1,kind,[0],room,0⟩ zs) :
 Calls Tryz.prog 8 #[.int .u8 kind,.int .i64 room,.slice WA 1 wc] w fun e w' => ∃ S,e = .returned (pS S) ∧ StoreK kind (zs.map Int.toNat) V w' R S ⟨1,kmOf kind (zs.map Int.toNat),room.toNat,[],0⟩:=by
 have hmk:=zmakeI1 w
 have H1:=H.blk #[.int .i64 0] 3
 obtain ⟨B,hB⟩ : ∃ B,w.heap.size = B:=⟨_,rfl⟩
 obtain ⟨W1,hW1⟩ : ∃ W1,w.alloc (.cells #[.int .i64 0] 3) = W1:=⟨_,rfl⟩
 rw [hB,hW1] at H1 hmk
 have zn:=knew_c H1 ⟨1,kind,[0],room,0⟩ (KA:=some ⟨B,0,none⟩) (kn:=1) (kc:=1) (fun W k => nums_blk (zs:=[0]) k (.head _) rfl) (by decide) (fun W k => hz W k.drop) (by decide) hm
 have zn:Calls Tryz.prog 11 #[.agg #[.int .i64 1,.int .u8 kind,.slice (some ⟨B,0,none⟩) 1 1,.int .i64 room,.int .i64 0],.slice WA 1 wc] W1 fun e w' => ∃ S,e = .returned (.tuple #[pS S,.int .i64 0]) ∧ StoreK kind (zs.map Int.toNat) V w' (blkT B #[.int .i64 0] 3 :: R) S ⟨1,kmOf kind (zs.map Int.toNat),room.toNat,[],0⟩:=zn
 clear hB hW1 H1 H hz hm
 go_enter Tryz.func8,Tryz.ntmps8
 go_wp2_with (first
  | (go_at_call 11; ((with_reducible refine zn.mono ?_); rintro e w1 ⟨S,rfl,K⟩; clear zn hmk)))
 go_ret
 exact ⟨S,rfl,K.less⟩
theorem zmakeI2 (w:World):(Instr.makeSlice 34 (.int .i64 2) (.int .i64 2)).run Tryz.prog w = .ok (.slice (some ⟨w.heap.size,0,none⟩) 2 2) (w.alloc (.cells #[.int .i64 0,.int .i64 0] 3)):=by
 kernel_rfl
set_option maxRecDepth 20000 in
theorem of2_c {V w:World} {R:List Thing} (H:Own V w R) {kind room:Int} {WA:Option Addr} {wc:Nat} {zs:List Int} (hz:∀ W,Own V W R → NumsAt W (.slice WA 2 wc) zs) (hm:MayTab ⟨1,kind,[0,0],room,0⟩ zs) :
 Calls Tryz.prog 8 #[.int .u8 kind,.int .i64 room,.slice WA 2 wc] w fun e w' => ∃ S,e = .returned (pS S) ∧ StoreK kind (zs.map Int.toNat) V w' R S ⟨1,kmOf kind (zs.map Int.toNat),room.toNat,[],0⟩:=by
 have hmk:=zmakeI2 w
 have H1:=H.blk #[.int .i64 0,.int .i64 0] 3
 obtain ⟨B,hB⟩ : ∃ B,w.heap.size = B:=⟨_,rfl⟩
 obtain ⟨W1,hW1⟩ : ∃ W1,w.alloc (.cells #[.int .i64 0,.int .i64 0] 3) = W1:=⟨_,rfl⟩
 rw [hB,hW1] at H1 hmk
 have zn:=knew_c H1 ⟨1,kind,[0,0],room,0⟩ (KA:=some ⟨B,0,none⟩) (kn:=2) (kc:=2) (fun W k => nums_blk (zs:=[0,0]) k (.head _) rfl) (by decide) (fun W k => hz W k.drop) (by decide) hm
 have zn:Calls Tryz.prog 11 #[.agg #[.int .i64 1,.int .u8 kind,.slice (some ⟨B,0,none⟩) 2 2,.int .i64 room,.int .i64 0],.slice WA 2 wc] W1 fun e w' => ∃ S,e = .returned (.tuple #[pS S,.int .i64 0]) ∧ StoreK kind (zs.map Int.toNat) V w' (blkT B #[.int .i64 0,.int .i64 0] 3 :: R) S ⟨1,kmOf kind (zs.map Int.toNat),room.toNat,[],0⟩:=zn
 clear hB hW1 H1 H hz hm
 go_enter Tryz.func8,Tryz.ntmps8
 go_wp2_with (first
  | (go_at_call 11; ((with_reducible refine zn.mono ?_); rintro e w1 ⟨S,rfl,K⟩; clear zn hmk)))
 go_ret
 exact ⟨S,rfl,K.less⟩
abbrev putX (tb:Int) (key oth:ByteArray) (ln bk idle hard:Int):EntV:=⟨tb,key,oth,ln,0,bk,[],idle,hard,0,false⟩
set_option maxRecDepth 20000 in
theorem puts_c {V w:World} {R:List Thing} {S:Nat} {s:StM} {k:Int} {ws:List Nat} (h:StoreK k ws V w R S s) (hN:s.n < 99990) (key oth:ByteArray) (ln bk idle hard now:Int) (ho:(putX 1 key oth ln bk idle hard).Ok) (hm:mayT s (putX 1 key oth ln bk idle hard) = true) (hno:¬ hasE s.L (putX 1 key oth ln bk idle hard)) (room:s.L.length < s.cap) :
 Calls Tryz.prog 28 #[pS S,.agg #[.int .i64 0,.string key,.string oth,.int .i64 ln,.int .i64 0,.int .i64 bk,.slice none 0 0,.int .i64 idle,.int .i64 hard,.int .u64 0,.bool false],.int .i64 now] w fun e w' => e = .returned (.bool true) ∧ StoreK k ws V w' R S { s with L:=s.L ++ [⟨putX 1 key oth ln bk idle hard,clampT now,clampT now⟩],n:=s.n + 1 } :=by
 have g:=(Wider.refl w).alloc (.cells #[.int .i64 1,.string key,.string oth,.int .i64 ln,.int .i64 0,.int .i64 bk,.slice none 0 0,.int .i64 idle,.int .i64 hard,.int .u64 0,.bool false] 26)
 have H2:=h.rest.blk #[.int .i64 1,.string key,.string oth,.int .i64 ln,.int .i64 0,.int .i64 bk,.slice none 0 0,.int .i64 idle,.int .i64 hard,.int .u64 0,.bool false] 26
 have zp:=kput_c (h.quiet g) hN (x:=putX 1 key oth ln bk idle hard) (av:=.slice none 0 0) (fun W _ => ⟨none,0,0,rfl,rfl,fun _ => rfl,fun a e => (by cases e)⟩) ho hm hno room now
 have zp:Calls Tryz.prog 10 #[.pointer (some ⟨S,0,none⟩),.agg #[.int .i64 1,.string key,.string oth,.int .i64 ln,.int .i64 0,.int .i64 bk,.slice none 0 0,.int .i64 idle,.int .i64 hard,.int .u64 0,.bool false],.int .i64 now] _ fun e w' => e = .returned (.int .i64 0) ∧ StoreK k ws V w' R S { s with L:=s.L ++ [⟨putX 1 key oth ln bk idle hard,clampT now,clampT now⟩],n:=s.n + 1 } :=zp
 obtain ⟨P,hP⟩ : ∃ P,({ s with L:=s.L ++ [(⟨putX 1 key oth ln bk idle hard,clampT now,clampT now⟩ : HeldM)],n:=s.n + 1 } : StM) = P:=⟨_,rfl⟩
 rw [hP] at zp ⊢
 obtain ⟨W1,hW1⟩ : ∃ W,w.alloc (.cells #[.int .i64 1,.string key,.string oth,.int .i64 ln,.int .i64 0,.int .i64 bk,.slice none 0 0,.int .i64 idle,.int .i64 hard,.int .u64 0,.bool false] 26) = W:=⟨_,rfl⟩
 rw [hW1] at zp H2
 obtain ⟨B1,hB1⟩ : ∃ B,w.heap.size = B:=⟨_,rfl⟩
 rw [hB1] at H2
 have c0:=blk_cell H2.head 0 (v:=.int .i64 1) rfl
 have c1:=blk_cell H2.head 1 (v:=.string key) rfl
 have c2:=blk_cell H2.head 2 (v:=.string oth) rfl
 have c3:=blk_cell H2.head 3 (v:=.int .i64 ln) rfl
 have c4:=blk_cell H2.head 4 (v:=.int .i64 0) rfl
 have c5:=blk_cell H2.head 5 (v:=.int .i64 bk) rfl
 have c6:=blk_cell H2.head 6 (v:=.slice none 0 0) rfl
 have c7:=blk_cell H2.head 7 (v:=.int .i64 idle) rfl
 have c8:=blk_cell H2.head 8 (v:=.int .i64 hard) rfl
 have c9:=blk_cell H2.head 9 (v:=.int .u64 0) rfl
 have c10:=blk_cell H2.head 10 (v:=.bool false) rfl
 clear hP g H2 h hN ho hm hno room
 show Calls Tryz.prog 28 #[.pointer (some ⟨S,0,none⟩),.agg #[.int .i64 0,.string key,.string oth,.int .i64 ln,.int .i64 0,.int .i64 bk,.slice none 0 0,.int .i64 idle,.int .i64 hard,.int .u64 0,.bool false],.int .i64 now] w _
 go_enter Tryz.func28,Tryz.ntmps28
 go_upto_region 2 with (fail)
 try rw [hW1]
 try rw [hB1]
 clear hW1 hB1
 go_wp2_with (first
  | (go_at_call 10; ((with_reducible refine zp.mono ?_); rintro e w1 ⟨rfl,K⟩; clear zp)))
 go_ret
 exact ⟨rfl,K⟩
set_option maxRecDepth 20000 in
theorem finds_c {V w:World} {R:List Thing} {S:Nat} {s:StM} {k:Int} {ws:List Nat} (h:StoreK k ws V w R S s) (hN:s.n < 99990) (key:ByteArray) (hk:key.size = ws.sum) (hk2:key.size < 1000) {o:Option HeldM} (ho:LookO k ws s.L key o) (bk:Int) (hb:match o with | none => bk = 0 | some g => g.x.bk = bk ∧ 0 < bk) :
 Calls Tryz.prog 29 #[pS S,.string key,.int .i64 bk] w fun e w' => e = .returned (.bool true) ∧ StoreK k ws V w' R S s:=by
 have zl:=klook_c h hN key hk hk2 ho
 clear h hN hk hk2
 cases o with
 | none =>
   obtain rfl:bk = 0:=hb
   skip
   show Calls Tryz.prog 29 #[.pointer (some ⟨S,0,none⟩),.string key,.int .i64 0] w _
   have zl:Calls Tryz.prog 14 #[.pointer (some ⟨S,0,none⟩),.string key] w fun e w' => (∃ x A n c,x = zeroX ∧ e = .returned (.tuple #[entV x (.slice A n c),.bool false])) ∧ StoreK k ws V w' R S s:=zl
   go_enter Tryz.func29,Tryz.ntmps29
   go_wp2_with (first
    | (go_at_call 14; ((with_reducible refine zl.mono ?_); rintro e w1 ⟨⟨x,A,n,c,rfl,rfl⟩,K⟩; have K:=K.quiet ((Wider.refl w1).alloc (.cells #[.int .i64 0,.string ⟨#[]⟩,.string ⟨#[]⟩,.int .i64 0,.int .i64 0,.int .i64 0,.slice A n c,.int .i64 0,.int .i64 0,.int .u64 0,.bool false] 26)); clear zl)))
   go_ret
   exact ⟨rfl,K⟩
 | some g =>
   obtain ⟨hx,h0⟩ : g.x.bk = bk ∧ 0 < bk:=hb
   skip
   have e1:(bk == bk) = true:=beq_self_eq_true bk
   have e2:decide (bk > 0) = true:=decide_eq_true h0
   have e3:decide (0 < bk) = true:=decide_eq_true h0
   obtain ⟨x,hgx⟩ : ∃ x,g.x = x:=⟨_,rfl⟩
   show Calls Tryz.prog 29 #[.pointer (some ⟨S,0,none⟩),.string key,.int .i64 bk] w _
   have zl:Calls Tryz.prog 14 #[.pointer (some ⟨S,0,none⟩),.string key] w fun e w' => (∃ y A n c,y = g.x ∧ e = .returned (.tuple #[entV y (.slice A n c),.bool true])) ∧ StoreK k ws V w' R S s:=zl
   rw [hgx] at zl hx
   obtain ⟨tb,xk,xo,ln,pr,bk2,args,idle,hard,ck,tl⟩:=x
   obtain rfl:bk2 = bk:=hx
   clear hgx
   have zl:Calls Tryz.prog 14 #[.pointer (some ⟨S,0,none⟩),.string key] w fun e w' => (∃ A n c,e = .returned (.tuple #[.agg #[.int .i64 tb,.string xk,.string xo,.int .i64 ln,.int .i64 pr,.int .i64 bk2,.slice A n c,.int .i64 idle,.int .i64 hard,.int .u64 ck,.bool tl],.bool true])) ∧ StoreK k ws V w' R S s:=zl.mono fun e w' h => by
    obtain ⟨⟨y,A,n,c,rfl,rfl⟩,K⟩:=h
    exact ⟨⟨A,n,c,rfl⟩,K⟩
   go_enter Tryz.func29,Tryz.ntmps29
   go_wp2_with (first
    | (go_at_call 14; ((with_reducible refine zl.mono ?_); rintro e w1 ⟨⟨A,n,c,rfl⟩,K⟩; have K:=K.quiet ((Wider.refl w1).alloc (.cells #[.int .i64 tb,.string xk,.string xo,.int .i64 ln,.int .i64 pr,.int .i64 bk2,.slice A n c,.int .i64 idle,.int .i64 hard,.int .u64 ck,.bool tl] 26)); clear zl)))
   go_ret
   exact ⟨rfl,K⟩
end Go.Proofs.YtbnpelciceblfaaGreat
