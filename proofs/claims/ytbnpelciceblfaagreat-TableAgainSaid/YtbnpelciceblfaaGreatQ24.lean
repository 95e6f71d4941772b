/- ZStore ZCodeA ZCodeB -/
import Derived.Test.YtbnpelciceblfaaGreatQ23
namespace Go.Proofs.YtbnpelciceblfaaGreat
set_option linter.unusedVariables false
open Go.ChangeShapes Go.WideShapes Go.ChangeAt Go.RowKit Go.Joins
set_option maxHeartbeats 64000000
structure HeldP where
 x:EntV
 av:Value
 pl:Nat
 put:Int
 used:Int
def HeldP.m (h:HeldP):HeldM:=⟨h.x,h.put,h.used⟩
def HeldP.kp (h:HeldP):KP:=(h.x,h.pl)
abbrev argA (x:EntV) (av:Value):Thing:=rowT 24 1 av x.args.length (u64s x.args)
def cellsHd (h:HeldP):List Value:=(entC h.x h.av).toList ++ [.int .i64 (h.pl:Int),.int .i64 h.put,.int .i64 h.used]
def cellsHs (E:List HeldP):List Value:=E.flatMap cellsHd
theorem cellsHd_length (h:HeldP):(cellsHd h).length = 14:=rfl
theorem cellsHs_cons (h:HeldP) (E:List HeldP):cellsHs (h :: E) = cellsHd h ++ cellsHs E:=rfl
theorem cellsHs_append (A B:List HeldP):cellsHs (A ++ B) = cellsHs A ++ cellsHs B:=List.flatMap_append
theorem cellsHs_length:∀ E:List HeldP,(cellsHs E).length = E.length * 14
 | [] => rfl
 | h :: E => by rw [cellsHs_cons,List.length_append,cellsHd_length,cellsHs_length E,List.length_cons]; omega
theorem cellsHs_at:∀ (E:List HeldP) (j:Nat) (h:HeldP),E[j]? = some h → ∀ i,i < 14 → (cellsHs E)[j * 14 + i]? = (cellsHd h)[i]?
 | [],j,h,e,i,hi => by simp at e
 | y :: E,0,h,e,i,hi => by
   obtain rfl:y = h:=by simpa using e
   rw [cellsHs_cons,List.getElem?_append_left (by rw [cellsHd_length]; omega)]
   simp
 | y :: E,j + 1,h,e,i,hi => by
   have e:E[j]? = some h:=by simpa using e
   rw [cellsHs_cons,List.getElem?_append_right (by rw [cellsHd_length]; omega),cellsHd_length,show (j + 1) * 14 + i - 14 = j * 14 + i by omega]
   exact cellsHs_at E j h e i hi
theorem cellsHs_take (E:List HeldP) (i:Nat):(cellsHs E).take (i * 14) = cellsHs (E.take i):=by
 induction E generalizing i with
 | nil => simp [cellsHs]
 | cons h E ih =>
   cases i with
   | zero => simp [cellsHs]
   | succ i =>
     rw [cellsHs_cons,List.take_append,cellsHd_length,List.take_of_length_le (by rw [cellsHd_length]; omega),show (i + 1) * 14 - 14 = i * 14 by omega,ih,List.take_succ_cons,cellsHs_cons]
theorem cellsHs_drop (E:List HeldP) (i:Nat):(cellsHs E).drop (i * 14) = cellsHs (E.drop i):=by
 induction E generalizing i with
 | nil => simp [cellsHs]
 | cons h E ih =>
   cases i with
   | zero => simp
   | succ i =>
     rw [cellsHs_cons,List.drop_append,cellsHd_length,List.drop_of_length_le (by rw [cellsHd_length]; omega),show (i + 1) * 14 - 14 = i * 14 by omega,ih,List.nil_append,List.drop_succ_cons]
def Sliced (E:List HeldP):Prop:=∀ h ∈ E,∃ A n c,h.av = .slice A n c
theorem cellsHs_one {E:List HeldP} (s:Sliced E):∀ u ∈ cellsHs E,u.oneCell' = true:=by
 intro u hu
 obtain ⟨h,hh,hu⟩:=List.mem_flatMap.1 hu
 obtain ⟨A,n,c,e⟩:=s h hh
 unfold cellsHd at hu
 rw [e] at hu
 simp only [List.mem_append,List.mem_cons,List.not_mem_nil,or_false] at hu
 rcases hu with (rfl | rfl | rfl | rfl | rfl | rfl | rfl | rfl | rfl | rfl | rfl) | rfl | rfl | rfl <;> rfl
def HeldAt (w:World) (B j:Nat) (h:HeldP):Prop:=∃ A n c,h.av = .slice A n c ∧ w.cell? ⟨B,j * 14,none⟩ = some (.int .i64 h.x.tb) ∧ w.cell? ⟨B,j * 14 + 1,none⟩ = some (.string h.x.key) ∧ w.cell? ⟨B,j * 14 + 2,none⟩ = some (.string h.x.oth) ∧ w.cell? ⟨B,j * 14 + 3,none⟩ = some (.int .i64 h.x.ln) ∧ w.cell? ⟨B,j * 14 + 4,none⟩ = some (.int .i64 h.x.pr) ∧ w.cell? ⟨B,j * 14 + 5,none⟩ = some (.int .i64 h.x.bk) ∧ w.cell? ⟨B,j * 14 + 6,none⟩ = some (.slice A n c) ∧ w.cell? ⟨B,j * 14 + 7,none⟩ = some (.int .i64 h.x.idle) ∧ w.cell? ⟨B,j * 14 + 8,none⟩ = some (.int .i64 h.x.hard) ∧ w.cell? ⟨B,j * 14 + 9,none⟩ = some (.int .u64 h.x.ck) ∧ w.cell? ⟨B,j * 14 + 10,none⟩ = some (.bool h.x.tl) ∧ w.cell? ⟨B,j * 14 + 11,none⟩ = some (.int .i64 (h.pl:Int)) ∧ w.cell? ⟨B,j * 14 + 12,none⟩ = some (.int .i64 h.put) ∧ w.cell? ⟨B,j * 14 + 13,none⟩ = some (.int .i64 h.used)
theorem HeldAt.on {W w:World} {B j:Nat} {h:HeldP} (k:HeldAt W B j h) (g:Wider W w):HeldAt w B j h:=by
 obtain ⟨A,n,c,e,a0,a1,a2,a3,a4,a5,a6,a7,a8,a9,a10,a11,a12,a13⟩:=k
 exact ⟨A,n,c,e,wkeep g a0,wkeep g a1,wkeep g a2,wkeep g a3,wkeep g a4,wkeep g a5,wkeep g a6,wkeep g a7,wkeep g a8,wkeep g a9,wkeep g a10,wkeep g a11,wkeep g a12,wkeep g a13⟩
def HeldsAt (w:World) (A:Option Addr) (E:List HeldP):Prop:=∀ (j:Nat) (h:HeldP),E[j]? = some h → ∃ B,A = some ⟨B,0,none⟩ ∧ HeldAt w B j h
theorem HeldsAt.on {W w:World} {A:Option Addr} {E:List HeldP} (h:HeldsAt W A E) (g:Wider W w):HeldsAt w A E:=fun j x hj => by
 obtain ⟨B,e,hc⟩:=h j x hj
 exact ⟨B,e,hc.on g⟩
theorem heldsAt {w:World} {T:TypeId} {A:Option Addr} {n c:Nat} {E:List HeldP} (h:w.ownsRow 0 T 14 (.slice A n c) n (cellsHs E)) (hn:E.length = n) (s:Sliced E):HeldsAt w A E:=fun j x hj => by
 have hl:=(List.getElem?_eq_some_iff.1 hj).1
 obtain ⟨B,c2,e,hc⟩:=rowR_slice h (by omega)
 injection e with e1 e2 e3
 obtain ⟨A2,n2,c3,e4⟩:=s x (List.mem_of_getElem? hj)
 have k:=fun i (hi:i < 14) v (hv:(cellsHd x)[i]? = some v) => hc (j * 14 + i) v ((cellsHs_at E j x hj i hi).trans hv)
 refine ⟨B,e1,A2,n2,c3,e4,k 0 (by decide) _ rfl,k 1 (by decide) _ rfl,k 2 (by decide) _ rfl,k 3 (by decide) _ rfl,k 4 (by decide) _ rfl,k 5 (by decide) _ rfl,?_,k 7 (by decide) _ rfl,k 8 (by decide) _ rfl,k 9 (by decide) _ rfl,k 10 (by decide) _ rfl,k 11 (by decide) _ rfl,k 12 (by decide) _ rfl,k 13 (by decide) _ rfl⟩
 have:=k 6 (by decide) _ rfl
 rw [e4] at this
 exact this
def EngA (k:Int) (ws:List Nat) (ev:Value) (Es Xs:List Thing) (M:List KP) (N:Nat):Prop :=
 (k = 1 ∧ ∃ p L F,ev = .iface 102 (.agg #[.pointer (some p)]) ∧ Es = [mapT p L F] ∧ Eng1 p L F M) ∨
 (k = 2 ∧ ∃ Z t T,ev = .iface 106 (.agg #[.pointer (some ⟨Z,0,none⟩)]) ∧ Es = [treeT T] ∧ Eng2 Z t T M) ∨
 (k = 3 ∧ ∃ s:SetN,ev = .iface 110 (.agg #[.pointer (some ⟨s.A,0,none⟩)]) ∧ Es = s.things ∧ SetL s (M.map toN) N) ∨
 (k = 4 ∧ ∃ Z wv iv D cw,ev = .iface 115 (.agg #[.pointer (some ⟨Z,0,none⟩),.slice D ws.length cw]) ∧ Es = [setT Z wv iv ws,rowW wv ws,rowR iv (M.map toR)] ∧ GoodR ws (M.map toR) N ∧ rowW (.slice D ws.length cw) ws ∈ Xs)
theorem EngA.more {k:Int} {ws:List Nat} {ev:Value} {Es Xs Ys:List Thing} {M:List KP} {N:Nat} (h:EngA k ws ev Es Xs M N) (l:∀ t ∈ Xs,t ∈ Ys):EngA k ws ev Es Ys M N:=by
 rcases h with h | h | h | ⟨e,Z,wv,iv,D,cw,h1,h2,h3,h4⟩
 · exact .inl h
 · exact .inr (.inl h)
 · exact .inr (.inr (.inl h))
 · exact .inr (.inr (.inr ⟨e,Z,wv,iv,D,cw,h1,h2,h3,l _ h4⟩))
structure StM where
 id:Int
 km:ByteArray → ByteArray → Int → Int → Bool
 cap:Nat
 L:List HeldM
 n:Nat
def mayT (s:StM) (x:EntV):Bool:=decide (x.tb = s.id ∧ 1 ≤ x.bk ∧ x.bk ≤ 65534 ∧ x.args.length ≤ 4 ∧ 0 ≤ x.idle ∧ x.idle ≤ 1099511627776 ∧ 0 ≤ x.hard ∧ x.hard ≤ 1099511627776) && s.km x.key x.oth x.ln x.pr
structure GoodY (s:StM):Prop where
 l:GoodL s.L s.cap
 c1:1 ≤ s.cap
 c2:s.cap ≤ 256
 may:∀ h ∈ s.L,mayT s h.x = true
 small:∀ h ∈ s.L,h.x.key.size ≤ 32 ∧ h.x.oth.size ≤ 32
 ok:∀ h ∈ s.L,h.x.Ok
abbrev pS (S:Nat):Value:=.pointer (some ⟨S,0,none⟩)
structure StoD where
 t:TabV
 kv:Value
 ws:List Nat
 ev:Value
 hv:Value
 last:Nat
 E:List HeldP
 Es:List Thing
abbrev stoC (d:StoD):Array Value:=#[.int .i64 d.t.id,.int .u8 d.t.kind,d.kv,.int .i64 d.t.cap,.int .i64 d.t.miss,.int .i64 (d.ws.sum:Int),d.ev,d.hv,.int .i64 (d.last:Int)]
def intsZ (l:List Int):List Value:=l.map fun v => Value.int .i64 v
abbrev rowK (d:StoD):Thing:=rowT 3 1 d.kv d.t.keys.length (intsZ d.t.keys)
abbrev rowHd (d:StoD):Thing:=rowT 77 14 d.hv d.E.length (cellsHs d.E)
def StoD.things (S:Nat) (d:StoD):List Thing:=blkT S (stoC d) 72 :: rowK d :: rowHd d :: d.Es
structure StF (d:StoD) (Xs:List Thing) (s:StM):Prop where
 k1:1 ≤ d.t.kind
 k4:d.t.kind ≤ 4
 w0:1 ≤ d.ws.length
 w4:d.ws.length ≤ 4
 w16:∀ n ∈ d.ws,1 ≤ n ∧ n ≤ 16
 keys:d.t.keys.length ≤ 4
 eng:EngA d.t.kind d.ws d.ev d.Es Xs (d.E.map HeldP.kp) s.n
 engf:EngF d.t.kind d.ws (d.E.map HeldP.kp)
 args:∀ h ∈ d.E,argA h.x h.av ∈ Xs
 asc:d.E.Pairwise fun a b => a.pl < b.pl
 last:∀ h ∈ d.E,h.pl ≤ d.last
 last2:d.last ≤ s.n
 hL:s.L = d.E.map HeldP.m
 hkm:s.km = kmOf d.t.kind d.ws
 hcap:d.t.cap = (s.cap:Int)
 hid:d.t.id = s.id
 good:GoodY s
def StA (Ts Xs:List Thing) (S:Nat) (s:StM):Prop:=∃ d:StoD,Ts = d.things S ∧ StF d Xs s
theorem StA.good {Ts Xs:List Thing} {S:Nat} {s:StM} (h:StA Ts Xs S s):GoodY s:=by obtain ⟨d,_,f⟩:=h; exact f.good
def StoreX (V w:World) (R Xs:List Thing) (S:Nat) (s:StM):Prop:=∃ Ts,Own V w (Ts ++ (Xs ++ R)) ∧ StA Ts Xs S s
def StoreIs (V w:World) (R:List Thing) (S:Nat) (s:StM):Prop:=∃ Xs,StoreX V w R Xs S s
def StoreTwo (V w:World) (R:List Thing) (S:Nat) (s:StM) (T:Nat) (t:StM):Prop:=∃ Us Xs,StoreX V w (Us ++ R) Xs S s ∧ StA Us Xs T t
def codeP (s:StM) (x:EntV):Int:=if mayT s x = true then (if hasE s.L x ∨ s.L.length < s.cap then 0 else 12) else 3
def putS (s:StM) (x:EntV) (now:Int):StM:=if mayT s x = true ∧ (hasE s.L x ∨ s.L.length < s.cap) then { s with L:=putE s.L x now,n:=s.n + 1 } else s
section
variable {V w:World} {R Xs:List Thing} {S:Nat} {s:StM}
theorem StoreX.quiet {w':World} (h:StoreX V w R Xs S s) (g:Wider w w'):StoreX V w' R Xs S s:=by
 obtain ⟨Ts,H,k⟩:=h; exact ⟨Ts,H.quiet g,k⟩
theorem StoreX.wider (h:StoreX V w R Xs S s):Wider V w:=by
 obtain ⟨Ts,H,k⟩:=h; exact H.wider
theorem StoreX.good (h:StoreX V w R Xs S s):GoodY s:=by
 obtain ⟨Ts,H,k⟩:=h; exact k.good
theorem StoreIs.quiet {w':World} (h:StoreIs V w R S s) (g:Wider w w'):StoreIs V w' R S s:=by
 obtain ⟨Xs,h⟩:=h; exact ⟨Xs,h.quiet g⟩
theorem StoreIs.wider (h:StoreIs V w R S s):Wider V w:=by
 obtain ⟨Xs,h⟩:=h; exact h.wider
theorem StoreIs.good (h:StoreIs V w R S s):GoodY s:=by
 obtain ⟨Xs,h⟩:=h; exact h.good
theorem own_rest {Ts:List Thing} : ∀ {M:List Thing},Own V w (Ts ++ M) → Own V w M:=fun {M} h => by
 induction Ts with
 | nil => exact h
 | cons t Ts ih => exact ih h.drop
theorem StoreIs.rest (h:StoreIs V w R S s):Own V w R:=by
 obtain ⟨Xs,Ts,H,k⟩:=h; exact own_rest (own_rest H)
theorem StoreIs.perm {R':List Thing} (h:StoreIs V w R S s) (p:R.Perm R'):StoreIs V w R' S s:=by
 obtain ⟨Xs,Ts,H,k⟩:=h; exact ⟨Xs,Ts,H.perm ((p.append_left _).append_left _),k⟩
theorem StoreX.less {M:List Thing} (h:StoreX V w (M ++ R) Xs S s):StoreX V w R Xs S s:=by
 obtain ⟨Ts,H,k⟩:=h
 refine ⟨Ts,own_rest (Ts:=M) (H.perm ?_),k⟩
 exact ((perm_mid Xs M R).append_left Ts).trans (perm_mid Ts M (Xs ++ R))
theorem StoreIs.less {M:List Thing} (h:StoreIs V w (M ++ R) S s):StoreIs V w R S s:=by
 obtain ⟨Xs,h⟩:=h; exact ⟨Xs,h.less⟩
theorem StoreTwo.swap {T:Nat} {t:StM} (h:StoreTwo V w R S s T t):StoreTwo V w R T t S s:=by
 obtain ⟨Us,Xs,⟨Ts,H,k⟩,k2⟩:=h
 refine ⟨Ts,Xs,⟨Us,H.perm ?_,k2⟩,k⟩
 exact ((perm_mid Xs Us R).append_left Ts).trans ((perm_mid Ts Us (Xs ++ R)).trans ((perm_mid Ts Xs R).append_left Us))
end
theorem one_tb {x y:EntV} (h:x.tb = y.tb):OneE x y ↔ OneK x y:=⟨fun k => k.2,fun k => ⟨h,k⟩⟩
def IndexH (E:List HeldP) (x:EntV) (r:Int):Prop:=(r = -1 ∧ ∀ y ∈ E,¬ OneE y.x x) ∨ ∃ (A B:List HeldP) (y:HeldP),E = A ++ y :: B ∧ OneE y.x x ∧ (∀ z ∈ A,¬ OneE z.x x) ∧ r = (A.length:Int)
theorem indexH_ex (x:EntV):∀ E:List HeldP,∃ r,IndexH E x r
 | [] => ⟨-1,.inl ⟨rfl,by simp⟩⟩
 | y :: E => by
   by_cases c:OneE y.x x
   · exact ⟨0,.inr ⟨[],E,y,rfl,c,by simp,rfl⟩⟩
   · obtain ⟨r,h⟩:=indexH_ex x E
     rcases h with ⟨e,h⟩ | ⟨A,B,z,e,h1,h2,h3⟩
     · exact ⟨-1,.inl ⟨rfl,fun z hz => by
        rcases List.mem_cons.1 hz with rfl | hz
        · exact c
        · exact h z hz⟩⟩
     · refine ⟨((y :: A).length:Int),.inr ⟨y :: A,B,z,by rw [e]; rfl,h1,fun v hv => ?_,rfl⟩⟩
       rcases List.mem_cons.1 hv with rfl | hv
       · exact c
       · exact h2 v hv
theorem IndexH.at {E:List HeldP} {x:EntV} {r:Int} (h:IndexH E x r) {i:Nat} (hi:∀ (j:Nat) (y:HeldP),j < i → E[j]? = some y → ¬ OneE y.x x) {y:HeldP} (hy:E[i]? = some y) (s:OneE y.x x):r = (i:Int):=by
 rcases h with ⟨_,h⟩ | ⟨A,B,z,rfl,s2,hA,rfl⟩
 · exact absurd s (h y (List.mem_of_getElem? hy))
 · rcases Nat.lt_trichotomy i A.length with c | c | c
   · rw [List.getElem?_append_left c] at hy
     exact absurd s (hA y (List.mem_of_getElem? hy))
   · rw [c]
   · exact absurd s2 (hi A.length z c (by rw [List.getElem?_append_right (Nat.le_refl _),Nat.sub_self]; rfl))
theorem IndexH.none {E:List HeldP} {x:EntV} {r:Int} (h:IndexH E x r) (hi:∀ (j:Nat) (y:HeldP),E[j]? = some y → ¬ OneE y.x x):r = -1:=by
 rcases h with ⟨h,_⟩ | ⟨A,B,z,rfl,s2,hA,rfl⟩
 · exact h
 · exact absurd s2 (hi A.length z (by rw [List.getElem?_append_right (Nat.le_refl _),Nat.sub_self]; rfl))
set_option maxRecDepth 20000 in
theorem zone_c (x y:EntV) (A:Option Addr) (n c:Nat) (A2:Option Addr) (n2 c2:Nat) {b:Bool} (hb:decide (OneE x y) = b) (w:World) :
 Calls Tryz.prog 26 #[entV x (.slice A n c),entV y (.slice A2 n2 c2)] w fun e w' => e = .returned (.bool b) ∧ Wider w w':=by
 obtain ⟨tb,key,oth,ln,pr,bk,args,idle,hard,ck,tl⟩:=x
 obtain ⟨tb2,key2,oth2,ln2,pr2,bk2,args2,idle2,hard2,ck2,tl2⟩:=y
 change decide (tb = tb2 ∧ key = key2 ∧ oth = oth2 ∧ ln = ln2 ∧ pr = pr2) = b at hb
 show Calls Tryz.prog 26 #[.agg #[.int .i64 tb,.string key,.string oth,.int .i64 ln,.int .i64 pr,.int .i64 bk,.slice A n c,.int .i64 idle,.int .i64 hard,.int .u64 ck,.bool tl],.agg #[.int .i64 tb2,.string key2,.string oth2,.int .i64 ln2,.int .i64 pr2,.int .i64 bk2,.slice A2 n2 c2,.int .i64 idle2,.int .i64 hard2,.int .u64 ck2,.bool tl2]] w _
 have G:=((Wider.refl w).alloc (.cells #[.int .i64 tb,.string key,.string oth,.int .i64 ln,.int .i64 pr,.int .i64 bk,.slice A n c,.int .i64 idle,.int .i64 hard,.int .u64 ck,.bool tl] 26)).alloc (.cells #[.int .i64 tb2,.string key2,.string oth2,.int .i64 ln2,.int .i64 pr2,.int .i64 bk2,.slice A2 n2 c2,.int .i64 idle2,.int .i64 hard2,.int .u64 ck2,.bool tl2] 26)
 by_cases h0:tb = tb2
 · subst h0
   have z0:(tb == tb) = true:=beq_self_eq_true _
   by_cases h1:key = key2
   · subst h1
     by_cases h2:oth = oth2
     · subst h2
       by_cases h3:ln = ln2
       · subst h3
         have z3:(ln == ln) = true:=beq_self_eq_true _
         by_cases h4:pr = pr2
         · subst h4
           have z4:(pr == pr) = true:=beq_self_eq_true _
           obtain rfl:true = b:=by rw [← hb]; exact (decide_eq_true ⟨rfl,rfl,rfl,rfl,rfl⟩).symm
           clear hb
           go_enter Tryz.func26,Tryz.ntmps26
           go_wp2
           go_ret
           exact ⟨rfl,G⟩
         · obtain rfl:b = false:=by rw [← hb]; exact decide_eq_false fun q => h4 q.2.2.2.2
           have z4:(pr == pr2) = false:=by rw [beq_eq_false_iff_ne]; exact h4
           clear hb
           go_enter Tryz.func26,Tryz.ntmps26
           go_wp2
           go_ret
           exact ⟨rfl,G⟩
       · obtain rfl:b = false:=by rw [← hb]; exact decide_eq_false fun q => h3 q.2.2.2.1
         have z3:(ln == ln2) = false:=by rw [beq_eq_false_iff_ne]; exact h3
         clear hb
         go_enter Tryz.func26,Tryz.ntmps26
         go_wp2
         go_ret
         exact ⟨rfl,G⟩
     · obtain rfl:b = false:=by rw [← hb]; exact decide_eq_false fun q => h2 q.2.2.1
       have z2:=textR_ne h2
       clear hb
       go_enter Tryz.func26,Tryz.ntmps26
       go_wp2
       go_ret
       exact ⟨rfl,G⟩
   · obtain rfl:b = false:=by rw [← hb]; exact decide_eq_false fun q => h1 q.2.1
     have z1:=textR_ne h1
     clear hb
     go_enter Tryz.func26,Tryz.ntmps26
     go_wp2
     go_ret
     exact ⟨rfl,G⟩
 · obtain rfl:b = false:=by rw [← hb]; exact decide_eq_false fun q => h0 q.1
   have z0:(tb == tb2) = false:=by rw [beq_eq_false_iff_ne]; exact h0
   clear hb
   go_enter Tryz.func26,Tryz.ntmps26
   go_wp2
   go_ret
   exact ⟨rfl,G⟩
theorem ztick_c (now:Int) (w:World):Calls Tryz.prog 33 #[.int .i64 now] w fun e w' => e = .returned (.int .i64 (clampT now)) ∧ Wider w w':=by
 have h:min (max now 0) 1099511627776 = clampT now:=by unfold clampT; omega
 go_enter Tryz.func33,Tryz.ntmps33
 go_wp2
 go_ret
 exact ⟨rfl,Wider.refl w⟩
def aftT (a t:Int):Int:=if t = 0 then 9223372036854775807 else a + t
theorem zafter_c (a t:Int) (h0:0 ≤ a) (h1:a ≤ 1099511627776) (h2:0 ≤ t) (h3:t ≤ 1099511627776) (w:World):Calls Tryz.prog 59 #[.int .i64 a,.int .i64 t] w fun e w' => e = .returned (.int .i64 (aftT a t)) ∧ Wider w w':=by
 by_cases c:t = 0
 · subst c
   go_enter Tryz.func59,Tryz.ntmps59
   go_wp2
   go_ret
   exact ⟨rfl,Wider.refl w⟩
 · have e:(t == 0) = false:=by rw [beq_eq_false_iff_ne]; exact c
   have w1:IntKind.i64.wrap (a + t) = a + t:=by simp [IntKind.wrap,IntKind.bits,IntKind.signed]; omega
   have q:aftT a t = a + t:=by unfold aftT; rw [if_neg c]
   rw [q]
   clear q
   go_enter Tryz.func59,Tryz.ntmps59
   go_wp2
   go_ret
   exact ⟨rfl,Wider.refl w⟩
abbrev heldV (h:HeldP) (A:Option Addr) (n c:Nat):Value:=.agg #[.int .i64 h.x.tb,.string h.x.key,.string h.x.oth,.int .i64 h.x.ln,.int .i64 h.x.pr,.int .i64 h.x.bk,.slice A n c,.int .i64 h.x.idle,.int .i64 h.x.hard,.int .u64 h.x.ck,.bool h.x.tl,.int .i64 (h.pl:Int),.int .i64 h.put,.int .i64 h.used]
structure TimeH (h:HeldP):Prop where
 p0:0 ≤ h.put
 p1:h.put ≤ 1099511627776
 u0:0 ≤ h.used
 u1:h.used ≤ 1099511627776
 h0:0 ≤ h.x.hard
 h1:h.x.hard ≤ 1099511627776
 i0:0 ≤ h.x.idle
 i1:h.x.idle ≤ 1099511627776
def hardH (h:HeldP):Int:=aftT h.put h.x.hard
def idleH (h:HeldP):Int:=aftT h.used h.x.idle
theorem zhard_c (h:HeldP) (k:TimeH h) (A:Option Addr) (n c:Nat) (w:World):Calls Tryz.prog 41 #[heldV h A n c] w fun e w' => e = .returned (.int .i64 (hardH h)) ∧ Wider w w':=by
 have za:=zafter_c h.put h.x.hard k.p0 k.p1 k.h0 k.h1
 obtain ⟨r,hr⟩ : ∃ r,hardH h = r:=⟨_,rfl⟩
 have hr2:aftT h.put h.x.hard = r:=hr
 rw [hr2] at za
 rw [hr]
 clear k hr hr2
 obtain ⟨⟨tb,key,oth,ln,pr,bk,args,idle,hard,ck,tl⟩,av,pl0,put,used⟩:=h
 obtain ⟨pl,hpl⟩ : ∃ pl:Int,(pl0:Int) = pl:=⟨_,rfl⟩
 have za:∀ w,Calls Tryz.prog 59 #[.int .i64 put,.int .i64 hard] w fun e w' => e = .returned (.int .i64 r) ∧ Wider w w':=za
 show Calls Tryz.prog 41 #[.agg #[.int .i64 tb,.string key,.string oth,.int .i64 ln,.int .i64 pr,.int .i64 bk,.slice A n c,.int .i64 idle,.int .i64 hard,.int .u64 ck,.bool tl,.int .i64 (pl0:Int),.int .i64 put,.int .i64 used]] w _
 rw [hpl]
 have G:=(Wider.refl w).alloc (.cells #[.int .i64 tb,.string key,.string oth,.int .i64 ln,.int .i64 pr,.int .i64 bk,.slice A n c,.int .i64 idle,.int .i64 hard,.int .u64 ck,.bool tl,.int .i64 pl,.int .i64 put,.int .i64 used] 77)
 clear hpl
 go_enter Tryz.func41,Tryz.ntmps41
 go_wp2_with (first
  | (go_at_call 59; ((with_reducible refine (za _).mono ?_); rintro e w1 ⟨rfl,g⟩; replace G:=G.trans g; clear za g)))
 go_ret
 exact ⟨rfl,G⟩
theorem zidle_c (h:HeldP) (k:TimeH h) (A:Option Addr) (n c:Nat) (w:World):Calls Tryz.prog 42 #[heldV h A n c] w fun e w' => e = .returned (.int .i64 (idleH h)) ∧ Wider w w':=by
 have za:=zafter_c h.used h.x.idle k.u0 k.u1 k.i0 k.i1
 obtain ⟨r,hr⟩ : ∃ r,idleH h = r:=⟨_,rfl⟩
 have hr2:aftT h.used h.x.idle = r:=hr
 rw [hr2] at za
 rw [hr]
 clear k hr hr2
 obtain ⟨⟨tb,key,oth,ln,pr,bk,args,idle,hard,ck,tl⟩,av,pl0,put,used⟩:=h
 obtain ⟨pl,hpl⟩ : ∃ pl:Int,(pl0:Int) = pl:=⟨_,rfl⟩
 have za:∀ w,Calls Tryz.prog 59 #[.int .i64 used,.int .i64 idle] w fun e w' => e = .returned (.int .i64 r) ∧ Wider w w':=za
 show Calls Tryz.prog 42 #[.agg #[.int .i64 tb,.string key,.string oth,.int .i64 ln,.int .i64 pr,.int .i64 bk,.slice A n c,.int .i64 idle,.int .i64 hard,.int .u64 ck,.bool tl,.int .i64 (pl0:Int),.int .i64 put,.int .i64 used]] w _
 rw [hpl]
 have G:=(Wider.refl w).alloc (.cells #[.int .i64 tb,.string key,.string oth,.int .i64 ln,.int .i64 pr,.int .i64 bk,.slice A n c,.int .i64 idle,.int .i64 hard,.int .u64 ck,.bool tl,.int .i64 pl,.int .i64 put,.int .i64 used] 77)
 clear hpl
 go_enter Tryz.func42,Tryz.ntmps42
 go_wp2_with (first
  | (go_at_call 59; ((with_reducible refine (za _).mono ?_); rintro e w1 ⟨rfl,g⟩; replace G:=G.trans g; clear za g)))
 go_ret
 exact ⟨rfl,G⟩
theorem tag_dues (h:HeldP) (k:TimeH h) {t:Int} (ht:0 ≤ t ∧ t ≤ 1099511627776):tagT t h.m = if hardH h ≤ t then 1 else if idleH h ≤ t then 2 else 0:=by
 have k1:=k.p0; have k2:=k.p1; have k3:=k.u0; have k4:=k.u1; have k5:=k.h0; have k6:=k.h1; have k7:=k.i0; have k8:=k.i1
 have e1:(hardH h ≤ t) ↔ (0 < h.x.hard ∧ h.x.hard ≤ t - h.put):=by
  unfold hardH aftT
  split <;> omega
 have e2:(idleH h ≤ t) ↔ (0 < h.x.idle ∧ h.x.idle ≤ t - h.used):=by
  unfold idleH aftT
  split <;> omega
 unfold tagT
 simp only [e1,e2]
 rfl
theorem zexpired_c (h:HeldP) (k:TimeH h) (A:Option Addr) (n c:Nat) {t:Int} (ht:0 ≤ t ∧ t ≤ 1099511627776) {r:Int} (hr:tagT t h.m = r) (w:World):Calls Tryz.prog 43 #[heldV h A n c,.int .i64 t] w fun e w' => e = .returned (.int .i64 r) ∧ Wider w w':=by
 rw [tag_dues h k ht] at hr
 have zh:=zhard_c h k A n c
 have zi:=zidle_c h k A n c
 obtain ⟨hd,hhd⟩ : ∃ hd,hardH h = hd:=⟨_,rfl⟩
 obtain ⟨id,hid⟩ : ∃ id,idleH h = id:=⟨_,rfl⟩
 rw [hhd] at zh hr
 rw [hid] at zi hr
 clear k hhd hid ht
 obtain ⟨⟨tb,key,oth,ln,pr,bk,args,idle,hard,ck,tl⟩,av,pl0,put,used⟩:=h
 obtain ⟨pl,hpl⟩ : ∃ pl:Int,(pl0:Int) = pl:=⟨_,rfl⟩
 have zh:∀ w,Calls Tryz.prog 41 #[.agg #[.int .i64 tb,.string key,.string oth,.int .i64 ln,.int .i64 pr,.int .i64 bk,.slice A n c,.int .i64 idle,.int .i64 hard,.int .u64 ck,.bool tl,.int .i64 (pl0:Int),.int .i64 put,.int .i64 used]] w fun e w' => e = .returned (.int .i64 hd) ∧ Wider w w':=zh
 have zi:∀ w,Calls Tryz.prog 42 #[.agg #[.int .i64 tb,.string key,.string oth,.int .i64 ln,.int .i64 pr,.int .i64 bk,.slice A n c,.int .i64 idle,.int .i64 hard,.int .u64 ck,.bool tl,.int .i64 (pl0:Int),.int .i64 put,.int .i64 used]] w fun e w' => e = .returned (.int .i64 id) ∧ Wider w w':=zi
 show Calls Tryz.prog 43 #[.agg #[.int .i64 tb,.string key,.string oth,.int .i64 ln,.int .i64 pr,.int .i64 bk,.slice A n c,.int .i64 idle,.int .i64 hard,.int .u64 ck,.bool tl,.int .i64 (pl0:Int),.int .i64 put,.int .i64 used],.int .i64 t] w _
 rw [hpl] at zh zi
 rw [hpl]
 have G:=(Wider.refl w).alloc (.cells #[.int .i64 tb,.string key,.string oth,.int .i64 ln,.int .i64 pr,.int .i64 bk,.slice A n c,.int .i64 idle,.int .i64 hard,.int .u64 ck,.bool tl,.int .i64 pl,.int .i64 put,.int .i64 used] 77)
 have Y:∀ W,Wider (w.alloc (.cells #[.int .i64 tb,.string key,.string oth,.int .i64 ln,.int .i64 pr,.int .i64 bk,.slice A n c,.int .i64 idle,.int .i64 hard,.int .u64 ck,.bool tl,.int .i64 pl,.int .i64 put,.int .i64 used] 77)) W → ∀ i v,(#[.int .i64 tb,.string key,.string oth,.int .i64 ln,.int .i64 pr,.int .i64 bk,.slice A n c,.int .i64 idle,.int .i64 hard,.int .u64 ck,.bool tl,.int .i64 pl,.int .i64 put,.int .i64 used] : Array Value)[i]? = some v → W.cell? ⟨w.heap.size,i,none⟩ = some v:=fun W g i v hv => wkeep g (by rw [World.cell?_alloc_new]; exact hv)
 have HY:=Lib.hid Y
 clear hpl Y
 have CELLS:=trivial
 by_cases c1:hd ≤ t
 · rw [if_pos c1] at hr
   subst hr
   go_enter Tryz.func43,Tryz.ntmps43
   go_wp2_with (first
    | (go_at_call 41; ((with_reducible refine (zh _).mono ?_); rintro e w1 ⟨rfl,g⟩; replace G:=G.trans g; clear zh g)))
   go_ret
   exact ⟨rfl,G⟩
 · rw [if_neg c1] at hr
   have G0:=Wider.refl (w.alloc (.cells #[.int .i64 tb,.string key,.string oth,.int .i64 ln,.int .i64 pr,.int .i64 bk,.slice A n c,.int .i64 idle,.int .i64 hard,.int .u64 ck,.bool tl,.int .i64 pl,.int .i64 put,.int .i64 used] 77))
   by_cases c2:id ≤ t
   · rw [if_pos c2] at hr
     subst hr
     go_enter Tryz.func43,Tryz.ntmps43
     go_wp2_with (first
      | (go_at_call 41; ((with_reducible refine (zh _).mono ?_); rintro e w1 ⟨rfl,g⟩; replace G:=G.trans g; have Y:=HY.out w1 g; have y0:=Y 0 _ rfl; have y1:=Y 1 _ rfl; have y2:=Y 2 _ rfl; have y3:=Y 3 _ rfl; have y4:=Y 4 _ rfl; have y5:=Y 5 _ rfl; have y6:=Y 6 _ rfl; have y7:=Y 7 _ rfl; have y8:=Y 8 _ rfl; have y9:=Y 9 _ rfl; have y10:=Y 10 _ rfl; have y11:=Y 11 _ rfl; have y12:=Y 12 _ rfl; have y13:=Y 13 _ rfl; clear zh g Y G0))
      | (go_at_call 42; ((with_reducible refine (zi _).mono ?_); rintro e w2 ⟨rfl,g⟩; replace G:=G.trans g; clear zi g)))
     go_ret
     exact ⟨rfl,G⟩
   · rw [if_neg c2] at hr
     subst hr
     go_enter Tryz.func43,Tryz.ntmps43
     go_wp2_with (first
      | (go_at_call 41; ((with_reducible refine (zh _).mono ?_); rintro e w1 ⟨rfl,g⟩; replace G:=G.trans g; have Y:=HY.out w1 g; have y0:=Y 0 _ rfl; have y1:=Y 1 _ rfl; have y2:=Y 2 _ rfl; have y3:=Y 3 _ rfl; have y4:=Y 4 _ rfl; have y5:=Y 5 _ rfl; have y6:=Y 6 _ rfl; have y7:=Y 7 _ rfl; have y8:=Y 8 _ rfl; have y9:=Y 9 _ rfl; have y10:=Y 10 _ rfl; have y11:=Y 11 _ rfl; have y12:=Y 12 _ rfl; have y13:=Y 13 _ rfl; clear zh g Y G0))
      | (go_at_call 42; ((with_reducible refine (zi _).mono ?_); rintro e w2 ⟨rfl,g⟩; replace G:=G.trans g; clear zi g)))
     go_ret
     exact ⟨rfl,G⟩
set_option maxRecDepth 20000 in
theorem zsame1_c (h:HeldP) (A:Option Addr) (n c:Nat) (y:EntV) {A2:Option Addr} {n2 c2:Nat} {p:Nat} {w:World} (E0:Ent11 w p y.tb y.key y.oth y.ln y.pr y.bk A2 n2 c2 y.idle y.hard y.ck y.tl) {b:Bool} (hb:decide (OneE h.x y) = b) :
 Calls Tryz.prog 47 #[heldV h A n c,.pointer (some ⟨p,0,none⟩)] w fun e w' => e = .returned (.bool b) ∧ Wider w w':=by
 have zo:=zone_c h.x y A n c A2 n2 c2 hb
 obtain ⟨⟨tb,key,oth,ln,pr,bk,args,idle,hard,ck,tl⟩,av,pl0,put,used⟩:=h
 obtain ⟨tb2,key2,oth2,ln2,pr2,bk2,args2,idle2,hard2,ck2,tl2⟩:=y
 obtain ⟨pl,hpl⟩ : ∃ pl:Int,(pl0:Int) = pl:=⟨_,rfl⟩
 have zo:∀ w,Calls Tryz.prog 26 #[.agg #[.int .i64 tb,.string key,.string oth,.int .i64 ln,.int .i64 pr,.int .i64 bk,.slice A n c,.int .i64 idle,.int .i64 hard,.int .u64 ck,.bool tl],.agg #[.int .i64 tb2,.string key2,.string oth2,.int .i64 ln2,.int .i64 pr2,.int .i64 bk2,.slice A2 n2 c2,.int .i64 idle2,.int .i64 hard2,.int .u64 ck2,.bool tl2]] w fun e w' => e = .returned (.bool b) ∧ Wider w w':=zo
 show Calls Tryz.prog 47 #[.agg #[.int .i64 tb,.string key,.string oth,.int .i64 ln,.int .i64 pr,.int .i64 bk,.slice A n c,.int .i64 idle,.int .i64 hard,.int .u64 ck,.bool tl,.int .i64 (pl0:Int),.int .i64 put,.int .i64 used],.pointer (some ⟨p,0,none⟩)] w _
 rw [hpl]
 have G:=(Wider.refl w).alloc (.cells #[.int .i64 tb,.string key,.string oth,.int .i64 ln,.int .i64 pr,.int .i64 bk,.slice A n c,.int .i64 idle,.int .i64 hard,.int .u64 ck,.bool tl,.int .i64 pl,.int .i64 put,.int .i64 used] 77)
 have E1:=E0.on G
 obtain ⟨x0,x1,x2,x3,x4,x5,x6,x7,x8,x9,x10⟩ : Ent11 _ p tb2 key2 oth2 ln2 pr2 bk2 A2 n2 c2 idle2 hard2 ck2 tl2:=E1
 clear hpl E0 hb
 go_enter Tryz.func47,Tryz.ntmps47
 go_wp2_with (first
  | (go_at_call 26; ((with_reducible refine (zo _).mono ?_); rintro e w1 ⟨rfl,g⟩; replace G:=G.trans g; clear zo g)))
 go_ret
 exact ⟨rfl,G⟩
set_option maxRecDepth 20000 in
theorem zindex_c {w:World} {A:Option Addr} {n c:Nat} {E:List HeldP} (hL:HeldsAt w A E) (hn:E.length = n) (hl:n < 1000000) (y:EntV) {A2:Option Addr} {n2 c2:Nat} {p:Nat} (E0:Ent11 w p y.tb y.key y.oth y.ln y.pr y.bk A2 n2 c2 y.idle y.hard y.ck y.tl) {r:Int} (hr:IndexH E y r) :
 Calls Tryz.prog 46 #[.slice A n c,.func (.func 47) #[] #[.pointer (some ⟨p,0,none⟩)]] w fun e w' => e = .returned (.int .i64 r) ∧ Wider w w':=by
 have zs:=fun (W:World) (g:Wider w W) (h:HeldP) (A n c) => zsame1_c h A n c y (E0.on g) rfl
 have HL:=Lib.hid hL
 have HN:=Lib.hid hn
 have HR:=Lib.hid hr
 clear hL hn hr E0
 go_enter Tryz.func46,Tryz.ntmps46
 go_wp2
 go_loopw [8] (fun a wr => ∃ i:Nat,i ≤ n ∧ a = .int .i64 (i:Int) ∧ Wider w wr ∧ Hid (∀ (j:Nat) (h:HeldP),j < i → E[j]? = some h → ¬ OneE h.x y)) (fun a _ => n - (intOf a).toNat)
 case atStart => exact ⟨0,Nat.zero_le _,rfl,Wider.refl _,Lib.hid fun j y hj => absurd hj (Nat.not_lt_zero _)⟩
 case round =>
  obtain ⟨i,hi0,rfl,G,HI⟩:=hrel
  have q0:(0:Int) ≤ (i:Int):=by omega
  by_cases c:i < n
  · have q1:(i:Int) < (n:Int):=by omega
    obtain ⟨h,hy⟩ : ∃ h,E[i]? = some h:=⟨E[i]'(by rw [HN.out]; exact c),List.getElem?_eq_getElem _⟩
    obtain ⟨B,rfl,Ah,nh,ch,ea,x0,x1,x2,x3,x4,x5,x6,x7,x8,x9,x10,x11,x12,x13⟩:=HL.out i _ hy
    have x0:=wkeep G x0
    have x1:=wkeep G x1
    have x2:=wkeep G x2
    have x3:=wkeep G x3
    have x4:=wkeep G x4
    have x5:=wkeep G x5
    have x6:=wkeep G x6
    have x7:=wkeep G x7
    have x8:=wkeep G x8
    have x9:=wkeep G x9
    have x10:=wkeep G x10
    have x11:=wkeep G x11
    have x12:=wkeep G x12
    have x13:=wkeep G x13
    have z:=zs _ G h Ah nh ch
    have HY:=Lib.hid hy
    have HB:=Lib.hid (Iff.refl (OneE h.x y))
    obtain ⟨bb,hbb⟩ : ∃ bb,decide (OneE h.x y) = bb:=⟨_,rfl⟩
    have HBB:=Lib.hid hbb
    rw [hbb] at z
    clear hy hbb ea zs
    obtain ⟨⟨tb,key,oth,ln,pr,bk,args,idle,hard,ck,tl⟩,av,pl0,put,used⟩:=h
    simp only at x0 x1 x2 x3 x4 x5 x6 x7 x8 x9 x10 x11 x12 x13
    have z:Calls Tryz.prog 47 #[.agg #[.int .i64 tb,.string key,.string oth,.int .i64 ln,.int .i64 pr,.int .i64 bk,.slice Ah nh ch,.int .i64 idle,.int .i64 hard,.int .u64 ck,.bool tl,.int .i64 (pl0:Int),.int .i64 put,.int .i64 used],.pointer (some ⟨p,0,none⟩)] wr fun e w' => e = .returned (.bool bb) ∧ Wider wr w':=z
    obtain ⟨pl,hpl⟩ : ∃ pl:Int,(pl0:Int) = pl:=⟨_,rfl⟩
    rw [hpl] at x11 z
    clear hpl
    cases bb with
    | true =>
      go_wp2_with (first
       | (go_at_call 47; ((with_reducible refine z.mono ?_); rintro e w1 ⟨rfl,g⟩; replace G:=G.trans g; clear z g)))
      go_ret
      exact ⟨congrArg (fun q => Ending.returned (.int .i64 q)) (HR.out.at HI.out HY.out (of_decide_eq_true HBB.out)).symm,G⟩
    | false =>
      go_wp2_with (first
       | (go_at_call 47; ((with_reducible refine z.mono ?_); rintro e w1 ⟨rfl,g⟩; replace G:=G.trans g; clear z g)))
      go_roundw
      case measure => simp [intOf]; omega
      case rel =>
       refine ⟨i + 1,by omega,by go_num,G,Lib.hid fun j y hj hy => ?_⟩
       by_cases e:j = i
       · subst e
         rw [HY.out] at hy
         cases hy
         exact of_decide_eq_false HBB.out
       · exact HI.out j y (by omega) hy
  · have e:i = n:=by omega
    subst e
    have q1:¬ ((i:Int) < (i:Int)):=by omega
    go_wp2
    go_ret
    exact ⟨congrArg (fun q => Ending.returned (.int .i64 q)) (HR.out.none fun j y hy => HI.out j y (by rw [← HN.out]; exact (List.getElem?_eq_some_iff.1 hy).1) hy).symm,G⟩
theorem zfind1h_c (h:HeldP) (A:Option Addr) (n c:Nat) (q:Int) (w:World):Calls Tryz.prog 57 #[heldV h A n c,.int .i64 q] w fun e w' => e = .returned (.int .i64 (Lib.compareInt (h.pl:Int) q)) ∧ Wider w w':=by
 obtain ⟨⟨tb,key,oth,ln,pr,bk,args,idle,hard,ck,tl⟩,av,pl0,put,used⟩:=h
 obtain ⟨pl,hpl⟩ : ∃ pl:Int,(pl0:Int) = pl:=⟨_,rfl⟩
 show Calls Tryz.prog 57 #[.agg #[.int .i64 tb,.string key,.string oth,.int .i64 ln,.int .i64 pr,.int .i64 bk,.slice A n c,.int .i64 idle,.int .i64 hard,.int .u64 ck,.bool tl,.int .i64 (pl0:Int),.int .i64 put,.int .i64 used],.int .i64 q] w fun e w' => e = .returned (.int .i64 (Lib.compareInt (pl0:Int) q)) ∧ Wider w w'
 rw [hpl]
 have zc:=ucompare_c pl q
 have H:=(Wider.refl w).alloc (.cells #[.int .i64 tb,.string key,.string oth,.int .i64 ln,.int .i64 pr,.int .i64 bk,.slice A n c,.int .i64 idle,.int .i64 hard,.int .u64 ck,.bool tl,.int .i64 pl,.int .i64 put,.int .i64 used] 77)
 clear hpl
 go_enter Tryz.func57,Tryz.ntmps57
 go_wp2_with (first
  | (go_at_call 58; ((with_reducible refine (zc _).mono ?_); rintro e w1 ⟨rfl,g⟩; replace H:=H.trans g; clear g)))
 go_ret
 exact ⟨rfl,H⟩
set_option maxRecDepth 20000 in
theorem zsearch_c {w:World} {A:Option Addr} {n c:Nat} {E:List HeldP} (hL:HeldsAt w A E) (hn:E.length = n) (hl:n < 1000000) (q:Int) {k:Nat} (kn:k < n) (hcmp:∀ j p,E[j]? = some p → (((p.pl:Int) < q ↔ j < k) ∧ (j = k → (p.pl:Int) = q))) :
 Calls Tryz.prog 56 #[.slice A n c,.int .i64 q,.func (.func 57) #[] #[]] w fun e w' => e = .returned (.tuple #[.int .i64 (k:Int),.bool true]) ∧ Wider w w':=by
 have CMP:Hid (∀ j p,E[j]? = some p → (((p.pl:Int) < q ↔ j < k) ∧ (j = k → (p.pl:Int) = q))):=Lib.hid hcmp
 have HL:=Lib.hid hL
 have HN:=Lib.hid hn
 have HW:Wider w w:=Wider.refl w
 clear hL hn hcmp
 go_enter Tryz.func56,Tryz.ntmps56
 go_wp2
 go_loopw [9,10] (fun i j wr => ∃ a b:Nat,a ≤ k ∧ k ≤ b ∧ b ≤ n ∧ i = .int .i64 (a:Int) ∧ j = .int .i64 (b:Int) ∧ Wider w wr) (fun i j _ => (intOf j - intOf i).toNat)
 case atStart => exact ⟨0,n,by omega,by omega,by omega,by simp,rfl,HW⟩
 case round =>
  obtain ⟨a,b,ha,hb,hbn,rfl,rfl,g⟩:=hrel
  by_cases c0:a < b
  · obtain ⟨h,hh⟩ : ∃ h,(a + b) / 2 = h:=⟨_,rfl⟩
    have h1:a ≤ h:=by omega
    have h2:h < b:=by omega
    have c1:(a:Int) < (b:Int):=by omega
    have hh2:((a:Int) + (b:Int)) / 2 = (h:Int):=by omega
    have q0:(0:Int) ≤ (h:Int):=by omega
    have q1:(h:Int) < (n:Int):=by omega
    obtain ⟨p,hp⟩ : ∃ p,E[h]? = some p:=⟨E[h]'(by rw [HN.out]; omega),List.getElem?_eq_getElem _⟩
    obtain ⟨B,rfl,Ah,nh,ch,ea,x0,x1,x2,x3,x4,x5,x6,x7,x8,x9,x10,x11,x12,x13⟩:=HL.out h _ hp
    have x0:=wkeep g x0
    have x1:=wkeep g x1
    have x2:=wkeep g x2
    have x3:=wkeep g x3
    have x4:=wkeep g x4
    have x5:=wkeep g x5
    have x6:=wkeep g x6
    have x7:=wkeep g x7
    have x8:=wkeep g x8
    have x9:=wkeep g x9
    have x10:=wkeep g x10
    have x11:=wkeep g x11
    have x12:=wkeep g x12
    have x13:=wkeep g x13
    have zr:=zfind1h_c p Ah nh ch q
    obtain ⟨ci,hci⟩ : ∃ ci,Lib.compareInt (p.pl:Int) q = ci:=⟨_,rfl⟩
    have CM:=CMP.out h p hp
    rw [← compareInt_lt,← compareInt_zero,hci] at CM
    have CM:=Lib.hid CM
    rw [hci] at zr
    clear hp hci ea
    obtain ⟨⟨tb,key,oth,ln,pr,bk,args,idle,hard,ck,tl⟩,av,pl0,put,used⟩:=p
    simp only at x0 x1 x2 x3 x4 x5 x6 x7 x8 x9 x10 x11 x12 x13 CM
    have zr:∀ w,Calls Tryz.prog 57 #[.agg #[.int .i64 tb,.string key,.string oth,.int .i64 ln,.int .i64 pr,.int .i64 bk,.slice Ah nh ch,.int .i64 idle,.int .i64 hard,.int .u64 ck,.bool tl,.int .i64 (pl0:Int),.int .i64 put,.int .i64 used],.int .i64 q] w fun e w' => e = .returned (.int .i64 ci) ∧ Wider w w':=zr
    obtain ⟨pl,hpl⟩ : ∃ pl:Int,(pl0:Int) = pl:=⟨_,rfl⟩
    rw [hpl] at x11 zr
    clear hpl
    by_cases d:h < k
    · have e0:ci < 0:=CM.out.1.2 d
      clear CM
      go_wp2_with (first
       | (go_at_call 57; ((with_reducible refine (zr _).mono ?_); rintro e w1 ⟨rfl,g1⟩; replace g:=g.trans g1; clear g1 zr)))
      go_roundw
      case rel => exact ⟨h + 1,b,by omega,by omega,by omega,by go_num,rfl,g⟩
      case measure => simp [intOf]; omega
    · have e0:¬ ci < 0:=fun e => d (CM.out.1.1 e)
      clear CM
      go_wp2_with (first
       | (go_at_call 57; ((with_reducible refine (zr _).mono ?_); rintro e w1 ⟨rfl,g1⟩; replace g:=g.trans g1; clear g1 zr)))
      go_roundw
      case rel => exact ⟨a,h,by omega,by omega,by omega,rfl,rfl,g⟩
      case measure => simp [intOf]; omega
  · obtain rfl:a = b:=by omega
    obtain rfl:a = k:=by omega
    have c1:¬ (a:Int) < (a:Int):=by omega
    obtain ⟨h,hh⟩ : ∃ h,a = h:=⟨_,rfl⟩
    have q0:(0:Int) ≤ (h:Int):=by omega
    have q1:(h:Int) < (n:Int):=by omega
    obtain ⟨p,hp⟩ : ∃ p,E[h]? = some p:=⟨E[h]'(by rw [HN.out]; omega),List.getElem?_eq_getElem _⟩
    obtain ⟨B,rfl,Ah,nh,ch,ea,x0,x1,x2,x3,x4,x5,x6,x7,x8,x9,x10,x11,x12,x13⟩:=HL.out h _ hp
    have x0:=wkeep g x0
    have x1:=wkeep g x1
    have x2:=wkeep g x2
    have x3:=wkeep g x3
    have x4:=wkeep g x4
    have x5:=wkeep g x5
    have x6:=wkeep g x6
    have x7:=wkeep g x7
    have x8:=wkeep g x8
    have x9:=wkeep g x9
    have x10:=wkeep g x10
    have x11:=wkeep g x11
    have x12:=wkeep g x12
    have x13:=wkeep g x13
    have zr:=zfind1h_c p Ah nh ch q
    obtain ⟨ci,hci⟩ : ∃ ci,Lib.compareInt (p.pl:Int) q = ci:=⟨_,rfl⟩
    have CM:=CMP.out h p hp
    rw [← compareInt_lt,← compareInt_zero,hci] at CM
    have CM:=Lib.hid CM
    rw [hci] at zr
    clear hp hci ea
    obtain ⟨⟨tb,key,oth,ln,pr,bk,args,idle,hard,ck,tl⟩,av,pl0,put,used⟩:=p
    simp only at x0 x1 x2 x3 x4 x5 x6 x7 x8 x9 x10 x11 x12 x13 CM
    have zr:∀ w,Calls Tryz.prog 57 #[.agg #[.int .i64 tb,.string key,.string oth,.int .i64 ln,.int .i64 pr,.int .i64 bk,.slice Ah nh ch,.int .i64 idle,.int .i64 hard,.int .u64 ck,.bool tl,.int .i64 (pl0:Int),.int .i64 put,.int .i64 used],.int .i64 q] w fun e w' => e = .returned (.int .i64 ci) ∧ Wider w w':=zr
    obtain ⟨pl,hpl⟩ : ∃ pl:Int,(pl0:Int) = pl:=⟨_,rfl⟩
    rw [hpl] at x11 zr
    clear hpl
    have e:ci = 0:=CM.out.2 hh.symm
    have e1:(ci == 0) = true:=by simpa using e
    clear CM e
    subst hh
    go_wp2_with (first
     | (go_at_call 57; ((with_reducible refine (zr _).mono ?_); rintro e w1 ⟨rfl,g1⟩; replace g:=g.trans g1; clear g1 zr)))
    go_ret2
    exact ⟨rfl,g⟩
end Go.Proofs.YtbnpelciceblfaaGreat
