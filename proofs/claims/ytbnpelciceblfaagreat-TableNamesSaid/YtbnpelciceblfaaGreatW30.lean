/- ZCodeO ZAx ZDue ZKind -/
import Derived.Test.YtbnpelciceblfaaGreatW29
namespace Go.Proofs.YtbnpelciceblfaaGreat
set_option linter.unusedVariables false
open Go.ChangeShapes Go.WideShapes Go.ChangeAt Go.RowKit Go.Joins
set_option maxHeartbeats 64000000
theorem leaf_key8 {α β γ δ ε ζ η θ:Type} {C P:α → β → γ → δ → ε → ζ → η → θ → Prop} {G:Prop} (k:∀ w b c d e f g h,C w b c d e f g h → P w b c d e f g h) (g:Hid (∀ w b c d e f g h,C w b c d e f g h → P w b c d e f g h) → G):G:=g (Lib.hid k)
theorem newA {V W:World} {Es Xs R:List Thing} {r b:Thing} (K:Own V W (Es ++ (Xs ++ (r :: b :: R)))):Own V W (r :: (Es ++ (Xs ++ R))):=by
 have K2:Own V W ((Es ++ Xs) ++ (([r] : List Thing) ++ (b :: R))):=by rw [List.append_assoc]; exact K
 have K3:=own_unbox K2
 rw [List.append_assoc] at K3
 have p1:(Xs ++ (([r] : List Thing) ++ R)).Perm (r :: (Xs ++ R)):=List.perm_middle
 exact K3.perm ((p1.append_left Es).trans List.perm_middle)
def NewK (V w:World) (R:List Thing) (S:Nat) (t:TabV) (zs:List Int):Prop:=∃ Xs Ts,Own V w (Ts ++ (Xs ++ R)) ∧ ∃ d:StoD,Ts = d.things S ∧ StF d Xs ⟨t.id,kmOf t.kind (zs.map Int.toNat),t.cap.toNat,[],0⟩ ∧ d.t.kind = t.kind ∧ d.ws = zs.map Int.toNat
theorem new_sto {V w:World} {R Es Xs:List Thing} {S kn cI su:Nat} {BI:Option Addr} {T:TypeId} {v0:Value} {t:TabV} {zs:List Int} (hm:MayTab t zs) (h16:∀ m ∈ zs.map Int.toNat,1 ≤ m ∧ m ≤ 16) (hkn:t.keys.length = kn) (hsu:(zs.map Int.toNat).sum = su) (K:Own V w (blkT S #[.int .i64 t.id,.int .u8 t.kind,.slice BI kn cI,.int .i64 t.cap,.int .i64 t.miss,.int .i64 (su:Int),.iface T v0,.slice none 0 0,.int .i64 0] 72 :: rowT 3 1 (.slice BI kn cI) t.keys.length (intsZ t.keys) :: (Es ++ (Xs ++ R)))) (he:EngA t.kind (zs.map Int.toNat) (.iface T v0) Es Xs [] 0):NewK V w R S t zs:=by
 obtain ⟨m1,m2,m3,m4,m5,m6,m7,m8,m9⟩:=hm
 have hl:(zs.map Int.toNat).length = zs.length:=List.length_map ..
 subst hsu
 have H:=K.row (Wider.refl _) (World.ownsRow_nil _ _ 77 14)
 have H:=H.perm ((List.Perm.swap _ _ _).trans (List.Perm.cons _ (List.Perm.swap _ _ _)))
 refine ⟨Xs,_,H,⟨t,.slice BI kn cI,zs.map Int.toNat,.iface T v0,.slice none 0 0,0,[],Es⟩,rfl,?_,rfl,rfl⟩
 refine ⟨m3.1,m3.2,by show 1 ≤ (zs.map Int.toNat).length; omega,by show (zs.map Int.toNat).length ≤ 4; omega,h16,by show t.keys.length ≤ 4; omega,he,⟨fun m h => (by cases h),.nil,Nat.zero_le _,m6⟩,fun h k => (by cases k),.nil,fun h k => (by cases k),Nat.le_refl _,rfl,rfl,?_,rfl,?_⟩
 · show t.cap = ((t.cap.toNat:Nat):Int)
   omega
 · exact ⟨⟨.nil,Nat.zero_le _,fun h k => (by cases k),fun h k => (by cases k),fun h k => (by cases k),fun h k => (by cases k)⟩,by show 1 ≤ t.cap.toNat; omega,by show t.cap.toNat ≤ 256; omega,fun h k => (by cases k),fun h k => (by cases k),fun h k => (by cases k)⟩
set_option maxRecDepth 20000 in
theorem znew_k {V w:World} {R:List Thing} (H:Own V w R) (t:TabV) {KA:Option Addr} {kn kc:Nat} (hk:∀ W,Own V W R → NumsAt W (.slice KA kn kc) t.keys) (hl:kn < 1000) {WA:Option Addr} {wn wc:Nat} {zs:List Int} (hz:∀ W,Own V W R → NumsAt W (.slice WA wn wc) zs) (hl2:wn < 1000) :
 Calls Tryz.prog 11 #[.agg (tabC t (.slice KA kn kc)),.slice WA wn wc] w fun e w' => (¬ MayTab t zs ∧ e = .returned (.tuple #[.pointer none,.int .i64 3]) ∧ Wider w w') ∨ (MayTab t zs ∧ ∃ S,e = .returned (.tuple #[pS S,.int .i64 0]) ∧ NewK V w' R S t zs):=by
 have hkn:t.keys.length = kn:=by
  obtain ⟨_,_,_,e,l,_⟩:=hk w H
  injection e with e1 e2 e3
  rw [l,e2]
 have hwn:zs.length = wn:=by
  obtain ⟨_,_,_,e,l,_⟩:=hz w H
  injection e with e1 e2 e3
  rw [l,e2]
 have zo:=fun (R':List Thing) (W:World) (HW:Own V W R') (hr:Own V W R) => zowntab_c HW t (hk W hr) hl
 have g0:=(Wider.refl w).alloc (.cells (tabC t (.slice KA kn kc)) 36)
 have zm:=fun (r:Bool) (hr:decide (MayTab t zs) = r) => zmaytab_c (w:=w.alloc (.cells (tabC t (.slice KA kn kc)) 36)) t (KA:=KA) (kn:=kn) (kc:=kc) hkn hl ((hz w H).on g0) (by omega) hr
 refine by_post fun Q hQ => ?_
 have HQ:=Lib.hid hQ
 clear hQ
 by_cases hm:MayTab t zs
 · have zm:=zm true (decide_eq_true hm)
   obtain ⟨m1,m2,m3,m4,m5,m6,m7,m8,m9⟩:=hm
   have hws:=fun (W:World) (hr:Own V W R) => (nums_widths (hz W hr) m1).1
   have h16:∀ m ∈ zs.map Int.toNat,1 ≤ m ∧ m ≤ 16:=fun m hm => by
    obtain ⟨z,hz,rfl⟩:=List.mem_map.1 hm
    have:=m1 z hz
    omega
   have n1:1 ≤ wn:=by omega
   have n4:wn ≤ 4:=by omega
   have ze:=fun (R':List Thing) (W:World) (HW:Own V W R') (sub:∀ W,Own V W R' → Own V W R) => zengine_c (c:=wc) HW m3.1 m3.2 (fun W k => hws W (sub W k)) (by rw [List.length_map]; exact hwn) n1 n4 h16
   have zu:=fun (W:World) (hr:Own V W R) => zsum_c (c:=wc) (n:=wn) (hws W hr) (by rw [List.length_map]; exact hwn) (by omega) (fun m hm => (h16 m hm).2) rfl
   obtain ⟨su,hsu⟩ : ∃ su,(zs.map Int.toNat).sum = su:=⟨_,rfl⟩
   rw [hsu] at zu
   have HM:Hid (MayTab t zs):=Lib.hid ⟨m1,m2,m3,m4,m5,m6,m7,m8,m9⟩
   have H0:=H.blk (tabC t (.slice KA kn kc)) 36
   have HF:=Lib.hid (And.intro hkn (And.intro hwn (And.intro hsu h16)))
   clear H hk hz hkn hwn m1 m2 m3 m4 m5 m6 m7 m8 m9 hws h16 hsu
   obtain ⟨id,kind,keys,cap,miss⟩:=t
   show Calls Tryz.prog 11 #[.agg #[.int .i64 id,.int .u8 kind,.slice KA kn kc,.int .i64 cap,.int .i64 miss],.slice WA wn wc] w Q
   have zm:Calls Tryz.prog 12 #[.agg #[.int .i64 id,.int .u8 kind,.slice KA kn kc,.int .i64 cap,.int .i64 miss],.slice WA wn wc] (w.alloc (.cells #[.int .i64 id,.int .u8 kind,.slice KA kn kc,.int .i64 cap,.int .i64 miss] 36)) fun e w' => e = .returned (.bool true) ∧ Wider _ w':=zm
   have zo:∀ (R':List Thing) (W:World),Own V W R' → Own V W R → Calls Tryz.prog 35 #[.agg #[.int .i64 id,.int .u8 kind,.slice KA kn kc,.int .i64 cap,.int .i64 miss]] W fun e w' => ∃ B c',e = .returned (.agg #[.int .i64 id,.int .u8 kind,.slice B kn c',.int .i64 cap,.int .i64 miss]) ∧ Own V w' (rowT 3 1 (.slice B kn c') keys.length (intsZ keys) :: R'):=zo
   have ze:∀ (R':List Thing) (W:World),Own V W R' → (∀ W,Own V W R' → Own V W R) → Calls Tryz.prog 37 #[.int .u8 kind,.slice WA wn wc] W fun e w' => ∃ ev Es Xs,e = .returned ev ∧ Own V w' (Es ++ (Xs ++ R')) ∧ EngA kind (zs.map Int.toNat) ev Es Xs [] 0:=ze
   have H0:Own V (w.alloc (.cells #[.int .i64 id,.int .u8 kind,.slice KA kn kc,.int .i64 cap,.int .i64 miss] 36)) (blkT w.heap.size #[.int .i64 id,.int .u8 kind,.slice KA kn kc,.int .i64 cap,.int .i64 miss] 36 :: R):=H0
   obtain ⟨W0,hW0⟩ : ∃ W,w.alloc (.cells #[.int .i64 id,.int .u8 kind,.slice KA kn kc,.int .i64 cap,.int .i64 miss] 36) = W:=⟨_,rfl⟩
   obtain ⟨B0,hB0⟩ : ∃ B,w.heap.size = B:=⟨_,rfl⟩
   rw [hW0] at zm
   rw [hW0,hB0] at H0
   have HZ:=Lib.hid (And.intro zo (And.intro ze zu))
   have q0:=blk_cell (H0.holds (blkT B0 #[.int .i64 id,.int .u8 kind,.slice KA kn kc,.int .i64 cap,.int .i64 miss] 36) (.head _)) 0 (v:=.int .i64 id) rfl; have q1:=blk_cell (H0.holds (blkT B0 #[.int .i64 id,.int .u8 kind,.slice KA kn kc,.int .i64 cap,.int .i64 miss] 36) (.head _)) 1 (v:=.int .u8 kind) rfl; have q2:=blk_cell (H0.holds (blkT B0 #[.int .i64 id,.int .u8 kind,.slice KA kn kc,.int .i64 cap,.int .i64 miss] 36) (.head _)) 2 (v:=.slice KA kn kc) rfl; have q3:=blk_cell (H0.holds (blkT B0 #[.int .i64 id,.int .u8 kind,.slice KA kn kc,.int .i64 cap,.int .i64 miss] 36) (.head _)) 3 (v:=.int .i64 cap) rfl; have q4:=blk_cell (H0.holds (blkT B0 #[.int .i64 id,.int .u8 kind,.slice KA kn kc,.int .i64 cap,.int .i64 miss] 36) (.head _)) 4 (v:=.int .i64 miss) rfl
   clear g0 zo ze zu
   go_enter Tryz.func11,Tryz.ntmps11
   go_upto_region 1 with (fail)
   try rw [hW0]
   try rw [hB0]
   clear hW0 hB0
   go_upto_region 3 with (first
    | (go_at_call 12; ((with_reducible refine zm.mono ?_); rintro e w1 ⟨rfl,g⟩; have HK:=Lib.hid ((H0.quiet g).quiet (Wider.refl _).drew); clear zm g H0 q0 q1 q2 q3 q4)))
   refine' leaf_key8 (C:=fun (W:World) (BI:Option Addr) (cI:Nat) (T:TypeId) (v0:Value) (Es Xs:List Thing) (S:Nat) => Own V W (blkT S #[.int .i64 id,.int .u8 kind,.slice BI kn cI,.int .i64 cap,.int .i64 miss,.int .i64 (su:Int),.iface T v0,.slice none 0 0,.int .i64 0] 72 :: rowT 3 1 (.slice BI kn cI) keys.length (intsZ keys) :: (Es ++ (Xs ++ R))) ∧ EngA kind (zs.map Int.toNat) (.iface T v0) Es Xs [] 0) ?key ?lea
   case lea =>
    intro KEY
    have K:=HK.out
    obtain ⟨zo,ze,zu⟩:=HZ.out
    have q0:=blk_cell (K.holds (blkT B0 #[.int .i64 id,.int .u8 kind,.slice KA kn kc,.int .i64 cap,.int .i64 miss] 36) (.head _)) 0 (v:=.int .i64 id) rfl; have q1:=blk_cell (K.holds (blkT B0 #[.int .i64 id,.int .u8 kind,.slice KA kn kc,.int .i64 cap,.int .i64 miss] 36) (.head _)) 1 (v:=.int .u8 kind) rfl; have q2:=blk_cell (K.holds (blkT B0 #[.int .i64 id,.int .u8 kind,.slice KA kn kc,.int .i64 cap,.int .i64 miss] 36) (.head _)) 2 (v:=.slice KA kn kc) rfl; have q3:=blk_cell (K.holds (blkT B0 #[.int .i64 id,.int .u8 kind,.slice KA kn kc,.int .i64 cap,.int .i64 miss] 36) (.head _)) 3 (v:=.int .i64 cap) rfl; have q4:=blk_cell (K.holds (blkT B0 #[.int .i64 id,.int .u8 kind,.slice KA kn kc,.int .i64 cap,.int .i64 miss] 36) (.head _)) 4 (v:=.int .i64 miss) rfl
    have zo0:=zo _ _ K K.drop
    have ze0:=ze _ _ K (fun W k => k.drop)
    have zu0:=zu _ K.drop
    go_region_law (first
     | (go_simp; go_at_call 35; ((with_reducible refine zo0.mono ?_); rintro e w2 ⟨BI,cI,rfl,K2⟩; clear zo0 q0 q1 q2 q3 q4; have q0:=blk_cell (K2.holds (blkT B0 #[.int .i64 id,.int .u8 kind,.slice KA kn kc,.int .i64 cap,.int .i64 miss] 36) (.tail _ (.head _))) 0 (v:=.int .i64 id) rfl; have q1:=blk_cell (K2.holds (blkT B0 #[.int .i64 id,.int .u8 kind,.slice KA kn kc,.int .i64 cap,.int .i64 miss] 36) (.tail _ (.head _))) 1 (v:=.int .u8 kind) rfl; have q2:=blk_cell (K2.holds (blkT B0 #[.int .i64 id,.int .u8 kind,.slice KA kn kc,.int .i64 cap,.int .i64 miss] 36) (.tail _ (.head _))) 2 (v:=.slice KA kn kc) rfl; have q3:=blk_cell (K2.holds (blkT B0 #[.int .i64 id,.int .u8 kind,.slice KA kn kc,.int .i64 cap,.int .i64 miss] 36) (.tail _ (.head _))) 3 (v:=.int .i64 cap) rfl; have q4:=blk_cell (K2.holds (blkT B0 #[.int .i64 id,.int .u8 kind,.slice KA kn kc,.int .i64 cap,.int .i64 miss] 36) (.tail _ (.head _))) 4 (v:=.int .i64 miss) rfl; have ze1:=ze _ _ K2 (fun W k => k.drop.drop); have zu1:=zu _ K2.drop.drop))
     | (go_simp; go_at_call 36; ((with_reducible refine zu1.mono ?_); rintro e w3 ⟨rfl,g⟩; have K3:=K2.quiet g; clear zu1 ze1 q0 q1 q2 q3 q4; have q0:=blk_cell (K3.holds (blkT B0 #[.int .i64 id,.int .u8 kind,.slice KA kn kc,.int .i64 cap,.int .i64 miss] 36) (.tail _ (.head _))) 0 (v:=.int .i64 id) rfl; have q1:=blk_cell (K3.holds (blkT B0 #[.int .i64 id,.int .u8 kind,.slice KA kn kc,.int .i64 cap,.int .i64 miss] 36) (.tail _ (.head _))) 1 (v:=.int .u8 kind) rfl; have q2:=blk_cell (K3.holds (blkT B0 #[.int .i64 id,.int .u8 kind,.slice KA kn kc,.int .i64 cap,.int .i64 miss] 36) (.tail _ (.head _))) 2 (v:=.slice KA kn kc) rfl; have q3:=blk_cell (K3.holds (blkT B0 #[.int .i64 id,.int .u8 kind,.slice KA kn kc,.int .i64 cap,.int .i64 miss] 36) (.tail _ (.head _))) 3 (v:=.int .i64 cap) rfl; have q4:=blk_cell (K3.holds (blkT B0 #[.int .i64 id,.int .u8 kind,.slice KA kn kc,.int .i64 cap,.int .i64 miss] 36) (.tail _ (.head _))) 4 (v:=.int .i64 miss) rfl; have ze1:=ze _ _ K3 (fun W k => k.drop.drop)))
     | (go_simp; go_at_call 37; ((with_reducible refine ze1.mono ?_); rintro e w4 ⟨ev,Es,Xs,rfl,K4,he⟩; obtain ⟨T,v0,rfl⟩:=engA_some he; have HE:=Lib.hid he; clear ze1 he)))
    all_goals
     have K5:=(newA K4).blk #[.int .i64 id,.int .u8 kind,.slice BI kn cI,.int .i64 cap,.int .i64 miss,.int .i64 (su:Int),.iface T v0,.slice none 0 0,.int .i64 0] 72
     obtain ⟨W9,hW9⟩ : ∃ W,w4.alloc (.cells #[.int .i64 id,.int .u8 kind,.slice BI kn cI,.int .i64 cap,.int .i64 miss,.int .i64 (su:Int),.iface T v0,.slice none 0 0,.int .i64 0] 72) = W:=⟨_,rfl⟩
     obtain ⟨S9,hS9⟩ : ∃ S,w4.heap.size = S:=⟨_,rfl⟩
     rw [hW9,hS9] at K5
     try rw [hW9]
     try rw [hS9]
     exact KEY.out _ _ _ _ _ Es Xs S9 ⟨K5,HE.out⟩
   case key =>
    intro W BI cI T v0 Es Xs S ⟨K,he⟩
    go_wp2
    simp [bodyPost,results,Tryz.results11,go_sem]
    refine HQ.out _ _ (.inr ⟨HM.out,S,rfl,?_⟩)
    obtain ⟨hkn,hwn,hsu,h16⟩:=HF.out
    exact new_sto HM.out h16 hkn hsu K he
 · have zm:=zm false (decide_eq_false hm)
   have HM:=Lib.hid hm
   clear H hk hz hkn hwn zo hm
   obtain ⟨id,kind,keys,cap,miss⟩:=t
   show Calls Tryz.prog 11 #[.agg #[.int .i64 id,.int .u8 kind,.slice KA kn kc,.int .i64 cap,.int .i64 miss],.slice WA wn wc] w Q
   have zm:Calls Tryz.prog 12 #[.agg #[.int .i64 id,.int .u8 kind,.slice KA kn kc,.int .i64 cap,.int .i64 miss],.slice WA wn wc] (w.alloc (.cells #[.int .i64 id,.int .u8 kind,.slice KA kn kc,.int .i64 cap,.int .i64 miss] 36)) fun e w' => e = .returned (.bool false) ∧ Wider _ w':=zm
   have g0:Wider w (w.alloc (.cells #[.int .i64 id,.int .u8 kind,.slice KA kn kc,.int .i64 cap,.int .i64 miss] 36)):=g0
   go_enter Tryz.func11,Tryz.ntmps11
   go_wp2_with (first
    | (go_at_call 12; ((with_reducible refine zm.mono ?_); rintro e w1 ⟨rfl,g⟩; replace g0:=g0.trans g; clear zm g)))
   exact HQ.out _ _ (.inl ⟨HM.out,rfl,g0⟩)
theorem znew_a {V w:World} {R:List Thing} (H:Own V w R) (t:TabV) {KA:Option Addr} {kn kc:Nat} (hk:∀ W,Own V W R → NumsAt W (.slice KA kn kc) t.keys) (hl:kn < 1000) {WA:Option Addr} {wn wc:Nat} {zs:List Int} (hz:∀ W,Own V W R → NumsAt W (.slice WA wn wc) zs) (hl2:wn < 1000) :
 Calls Tryz.prog 11 #[.agg (tabC t (.slice KA kn kc)),.slice WA wn wc] w fun e w' => (¬ MayTab t zs ∧ e = .returned (.tuple #[.pointer none,.int .i64 3]) ∧ Wider w w') ∨ (MayTab t zs ∧ ∃ S,e = .returned (.tuple #[pS S,.int .i64 0]) ∧ StoreIs V w' R S ⟨t.id,kmOf t.kind (zs.map Int.toNat),t.cap.toNat,[],0⟩):=by
 refine (znew_k H t hk hl hz hl2).mono ?_
 rintro e w' (h | ⟨h,S,rfl,Xs,Ts,K,d,h1,h2,_,_⟩)
 · exact .inl h
 · exact .inr ⟨h,S,rfl,Xs,Ts,K,d,h1,h2⟩
theorem set_same {α β:Type} {l:List α} {i:Nat} {a b:α} (f:α → β) (h:l[i]? = some a) (e:f b = f a):(l.set i b).map f = l.map f:=by
 obtain ⟨hi,q⟩:=List.getElem?_eq_some_iff.1 h
 rw [List.map_set,e,← q,← List.getElem_map f (h:=by rw [List.length_map]; exact hi),List.set_getElem_self]
theorem StF.used {d:StoD} {Xs Es2:List Thing} {s:StM} (f:StF d Xs s) {i:Nat} {h:HeldP} {u:Int} (hi:d.E[i]? = some h) (hu:0 ≤ u ∧ u ≤ 1099511627776) (he:EngA d.t.kind d.ws d.ev Es2 Xs (d.E.map HeldP.kp) s.n):StF { d with E:=d.E.set i (h.at_ u),Es:=Es2 } Xs { s with L:=(d.E.set i (h.at_ u)).map HeldP.m } :=by
 have hh:h ∈ d.E:=List.mem_of_getElem? hi
 have ekp:(d.E.set i (h.at_ u)).map HeldP.kp = d.E.map HeldP.kp:=set_same _ hi rfl
 have epl:(d.E.set i (h.at_ u)).map HeldP.pl = d.E.map HeldP.pl:=set_same _ hi rfl
 have ex:(d.E.set i (h.at_ u)).map (fun h => h.x) = d.E.map (fun h => h.x):=set_same _ hi rfl
 have each:∀ {P:HeldP → Prop},(∀ g ∈ d.E,P g) → P (h.at_ u) → ∀ g ∈ d.E.set i (h.at_ u),P g:=fun a p g hg => by
  rcases List.mem_or_eq_of_mem_set hg with k | rfl
  · exact a g k
  · exact p
 have inL:HeldP.m h ∈ s.L:=by rw [f.hL]; exact List.mem_map.2 ⟨h,hh,rfl⟩
 have eachL:∀ {P:HeldM → Prop},(∀ g ∈ s.L,P g) → P (HeldP.m (h.at_ u)) → ∀ g ∈ (d.E.set i (h.at_ u)).map HeldP.m,P g:=fun {P} a p g hg => by
  obtain ⟨q,hq,rfl⟩:=List.mem_map.1 hg
  rcases List.mem_or_eq_of_mem_set hq with k | rfl
  · exact a _ (by rw [f.hL]; exact List.mem_map.2 ⟨q,k,rfl⟩)
  · exact p
 have nd:((d.E.set i (h.at_ u)).map HeldP.m).Pairwise fun a b => ¬ OneE a.x b.x:=by
  have n0:=f.good.l.nd
  rw [f.hL,List.pairwise_map] at n0
  rw [List.pairwise_map]
  have n1:(d.E.map (fun h => h.x)).Pairwise fun a b => ¬ OneE a b:=List.pairwise_map.2 n0
  rw [← ex] at n1
  exact List.pairwise_map.1 n1
 exact { f with
  eng:=by show EngA _ _ _ _ _ ((d.E.set i (h.at_ u)).map HeldP.kp) _; rw [ekp]; exact he
  engf:=by show EngF _ _ ((d.E.set i (h.at_ u)).map HeldP.kp); rw [ekp]; exact f.engf
  args:=each (P:=fun g => argA g.x g.av ∈ Xs) f.args (f.args h hh)
  asc:=by
   have n1:(d.E.map HeldP.pl).Pairwise fun a b => a < b:=List.pairwise_map.2 f.asc
   rw [← epl] at n1
   exact List.pairwise_map.1 n1
  last:=each (P:=fun g => g.pl ≤ d.last) f.last (f.last h hh)
  hL:=rfl
  good:=⟨⟨nd,by have:=f.good.l.len; rw [f.hL,List.length_map] at this; show ((d.E.set i (h.at_ u)).map HeldP.m).length ≤ _; rw [List.length_map,List.length_set]; exact this,eachL (P:=fun g => 0 ≤ g.x.hard ∧ g.x.hard ≤ 1099511627776) f.good.l.hard (f.good.l.hard (HeldP.m h) inL),eachL (P:=fun g => 0 ≤ g.x.idle ∧ g.x.idle ≤ 1099511627776) f.good.l.idle (f.good.l.idle (HeldP.m h) inL),eachL (P:=fun g => 0 ≤ g.put ∧ g.put ≤ 1099511627776) f.good.l.put (f.good.l.put (HeldP.m h) inL),eachL (P:=fun g => 0 ≤ g.found ∧ g.found ≤ 1099511627776) f.good.l.found hu⟩,f.good.c1,f.good.c2,eachL (P:=fun g => mayT s g.x = true) f.good.may (f.good.may (HeldP.m h) inL),eachL (P:=fun g => g.x.key.size ≤ 32 ∧ g.x.oth.size ≤ 32) f.good.small (f.good.small (HeldP.m h) inL),eachL (P:=fun g => g.x.Ok) f.good.ok (f.good.ok (HeldP.m h) inL)⟩ }
section
variable {V w:World} {R:List Thing} {S:Nat} {s:StM}
theorem ymay_c (h:StoreIs V w R S s) {x:EntV} {av:Value} (ha:ArgsAt w av x.args) (ho:x.Ok) :
 Calls Tryz.prog 9 #[pS S,entV x av] w fun e w' => e = .returned (.int .i64 (if mayT s x = true then 0 else 3)) ∧ Wider w w':=by
 obtain ⟨Xs,Ts,K,d,rfl,f⟩:=h
 obtain ⟨A,n,c,rfl,hn,_⟩:=id ha
 exact zmay_a K f x hn ho rfl
theorem yput_c (h:StoreIs V w R S s) (hN:s.n < 99990) {x:EntV} {av:Value} (ha:∀ W,Own V W R → ArgsAt W av x.args) (ho:x.Ok) (now:Int) :
 Calls Tryz.prog 10 #[pS S,entV x av,.int .i64 now] w fun e w' => e = .returned (.int .i64 (codeP s x)) ∧ StoreIs V w' R S (putS s x now):=by
 have hr:=h.rest
 obtain ⟨Xs,Ts,K,d,rfl,f⟩:=h
 obtain ⟨A,n,c,rfl,hn,_⟩:=id (ha w hr)
 by_cases hm:mayT s x = true
 · have hl:s.L.length = d.E.length:=by rw [f.hL,List.length_map]
   obtain ⟨r,hr⟩:=indexH_ex x d.E
   rcases hr with ⟨_,hno⟩ | ⟨A0,C0,y,eE,oy,hA,_⟩
   · have nh:¬ hasE s.L x:=fun ⟨m,hm,o⟩ => by
      rw [f.hL] at hm
      obtain ⟨p,hp,rfl⟩:=List.mem_map.1 hm
      exact hno p hp o
     by_cases room:d.E.length < s.cap
     · have hc:hasE s.L x ∨ s.L.length < s.cap:=.inr (by omega)
       have ec:codeP s x = 0:=by unfold codeP; rw [if_pos hm,if_pos hc]
       rw [ec]
       refine (zputN_a K f hN x ha ho hm hno room now).mono ?_
       rintro e w' ⟨rfl,BI,cI,hv,Es2,_,K2,he⟩
       exact ⟨rfl,_,_,K2,_,rfl,f.snoc (hv:=hv) (List.Sublist.refl _) (by rw [butE_none nh,f.hL]) hm ho hc he⟩
     · have hc:¬ (hasE s.L x ∨ s.L.length < s.cap):=fun k => by
        rcases k with k | k
        · exact nh k
        · omega
       have ec:codeP s x = 12:=by unfold codeP; rw [if_pos hm,if_neg hc]
       have ep:putS s x now = s:=by unfold putS; rw [if_neg (fun k => hc k.2)]
       rw [ec,ep]
       refine (zputF_a K f x hn ho hm hno (by omega) now).mono ?_
       rintro e w' ⟨rfl,g⟩
       exact ⟨rfl,Xs,_,K.quiet g,d,rfl,f⟩
   · have hc:hasE s.L x ∨ s.L.length < s.cap:=.inl ⟨HeldP.m y,by rw [f.hL,eE]; exact List.mem_map.2 ⟨y,List.mem_append_right _ (.head _),rfl⟩,oy⟩
     have ec:codeP s x = 0:=by unfold codeP; rw [if_pos hm,if_pos hc]
     rw [ec]
     refine (zputH_a K f hN x ha ho hm eE oy hA now).mono ?_
     rintro e w' ⟨rfl,BI,cI,hv,Es2,_,K2,he⟩
     have gl:=f.good.l
     rw [f.hL,eE] at gl
     exact ⟨rfl,_,_,K2,_,rfl,f.snoc (hv:=hv) (by rw [eE]; exact List.Sublist.append_left (List.sublist_cons_self _ _) _) (by rw [f.hL,eE]; exact cut_but gl oy) hm ho hc he⟩
 · have ec:codeP s x = 3:=by unfold codeP; rw [if_neg hm]
   have ep:putS s x now = s:=by unfold putS; rw [if_neg (fun k => hm k.1)]
   rw [ec,ep]
   refine (zputM_a K f x hn ho hm now).mono ?_
   rintro e w' ⟨rfl,g⟩
   exact ⟨rfl,Xs,_,K.quiet g,d,rfl,f⟩
theorem yexpire_c (h:StoreIs V w R S s) (hN:s.n < 99990) (now:Int) {n:Nat} (hn:(outT (clampT now) s.L).length = n) :
 Calls Tryz.prog 17 #[pS S,.int .i64 now] w fun e w' => ∃ B c G,e = .returned (.slice B n c) ∧ (G.map fun g => (g.e.x,g.tag)) = outT (clampT now) s.L ∧ StoreIs V w' (gonesT (.slice B n c) n G ++ R) S { s with L:=restT (clampT now) s.L } :=by
 obtain ⟨Xs,Ts,K,d,rfl,f⟩:=h
 refine (zexpire_a K f hN now).mono ?_
 rintro e w' ⟨B,m,c,G,A,hv,Es,rfl,hm,hG,hA,f2,K2⟩
 rw [← f.hL] at hG hA
 have em:m = n:=by rw [← hm,← hn,← hG,List.length_map]
 subst em
 rw [hA] at f2
 refine ⟨B,c,G,rfl,hG,Xs,_,K2.perm ?_,_,rfl,f2⟩
 exact (perm_mid _ _ _).trans ((perm_mid _ _ _).append_left _)
end
def dueV (E:List HeldP):Int:=E.foldl (fun v h => min (min v (hardH h)) (idleH h)) 9223372036854775807
theorem dueV_next {E:List HeldP} {i:Nat} {h:HeldP} (hi:E[i]? = some h):dueV (E.take (i + 1)) = min (min (dueV (E.take i)) (hardH h)) (idleH h):=by
 obtain ⟨k,rfl⟩:=List.getElem?_eq_some_iff.1 hi
 unfold dueV
 rw [List.take_succ_eq_append_getElem k,List.foldl_append]
 rfl
theorem due_fold:∀ (E:List HeldP) (v:Int),(E.foldl (fun v h => min (min v (hardH h)) (idleH h)) v ≤ v ∧ (∀ h ∈ E,E.foldl (fun v h => min (min v (hardH h)) (idleH h)) v ≤ hardH h ∧ E.foldl (fun v h => min (min v (hardH h)) (idleH h)) v ≤ idleH h) ∧ (E.foldl (fun v h => min (min v (hardH h)) (idleH h)) v = v ∨ ∃ h ∈ E,E.foldl (fun v h => min (min v (hardH h)) (idleH h)) v = hardH h ∨ E.foldl (fun v h => min (min v (hardH h)) (idleH h)) v = idleH h))
 | [],v => ⟨Int.le_refl _,fun h k => (by cases k),.inl rfl⟩
 | h :: E,v => by
   obtain ⟨a,b,c⟩:=due_fold E (min (min v (hardH h)) (idleH h))
   rw [List.foldl_cons]
   generalize hF:E.foldl (fun v h => min (min v (hardH h)) (idleH h)) (min (min v (hardH h)) (idleH h)) = F at *
   refine ⟨by omega,fun g hg => ?_,?_⟩
   · rcases List.mem_cons.1 hg with e | hg
     · subst e
       exact ⟨Int.le_trans a (by omega),Int.le_trans a (by omega)⟩
     · exact b g hg
   · rcases c with c | ⟨g,hg,c⟩
     · rw [c]
       clear a b c hF
       by_cases h1:min (min v (hardH h)) (idleH h) = v
       · exact .inl h1
       · refine .inr ⟨h,.head _,?_⟩
         generalize hardH h = x at *
         generalize idleH h = y at *
         omega
     · exact .inr ⟨g,.tail _ hg,c⟩
theorem min_if (u h i:Int):min (min u h) i = if i < (if h < u then h else u) then i else (if h < u then h else u):=by
 by_cases a:h < u
 · rw [if_pos a]
   by_cases b:i < h
   · rw [if_pos b]; omega
   · rw [if_neg b]; omega
 · rw [if_neg a]
   by_cases b:i < u
   · rw [if_pos b]; omega
   · rw [if_neg b]; omega
theorem dueV_is {E:List HeldP} (ht:∀ h ∈ E,TimeH h) {v:Int} (hv:dueV E = v):DueIs (E.map HeldP.m) (if v = 9223372036854775807 then 0 else v) (decide (v ≠ 9223372036854775807)):=by
 obtain ⟨_,b,c⟩:=due_fold E 9223372036854775807
 rw [show E.foldl (fun v h => min (min v (hardH h)) (idleH h)) 9223372036854775807 = v from hv] at b c
 have du:∀ h ∈ E,∀ u,DueH (HeldP.m h) u → (u = hardH h ∨ u = idleH h) ∧ u < 9223372036854775807:=fun h hh u k => by
  have t:=ht h hh
  have k1:=t.p0; have k2:=t.p1; have k3:=t.u0; have k4:=t.u1; have k5:=t.h0; have k6:=t.h1; have k7:=t.i0; have k8:=t.i1
  unfold hardH idleH aftT
  rcases k with ⟨k,e⟩ | ⟨k,e⟩
  · have k:0 < h.x.hard:=k
    have e:u = h.put + h.x.hard:=e
    rw [if_neg (by omega)]
    exact ⟨.inl e,by omega⟩
  · have k:0 < h.x.idle:=k
    have e:u = h.used + h.x.idle:=e
    rw [if_neg (show ¬ h.x.idle = 0 by omega)]
    exact ⟨.inr e,by omega⟩
 by_cases n:v = 9223372036854775807
 · refine .inl ⟨by simp [n],by rw [if_pos n],fun h hh u k => ?_⟩
   obtain ⟨p,hp,rfl⟩:=List.mem_map.1 hh
   have:=du p hp u k
   have:=b p hp
   omega
 · refine .inr ⟨by simp [n],?_,fun h hh u k => ?_⟩
   · rw [if_neg n]
     rcases c with c | ⟨h,hh,c⟩
     · exact absurd c n
     · refine ⟨HeldP.m h,List.mem_map.2 ⟨h,hh,rfl⟩,?_⟩
       have t:=ht h hh
       have k5:=t.h0; have k7:=t.i0
       unfold hardH idleH aftT at c
       rcases c with c | c
       · by_cases q:h.x.hard = 0
         · rw [if_pos q] at c; exact absurd c n
         · rw [if_neg q] at c; exact .inl ⟨show 0 < h.x.hard by omega,c⟩
       · by_cases q:h.x.idle = 0
         · rw [if_pos q] at c; exact absurd c n
         · rw [if_neg q] at c; exact .inr ⟨show 0 < h.x.idle by omega,c⟩
   · rw [if_neg n]
     obtain ⟨p,hp,rfl⟩:=List.mem_map.1 hh
     have:=du p hp u k
     have:=b p hp
     omega
set_option maxRecDepth 20000 in
theorem zdue_a {V w:World} {R Xs:List Thing} {S:Nat} {d:StoD} {s:StM} (H:Own V w (d.things S ++ (Xs ++ R))) (f:StF d Xs s) {v:Int} (hv:dueV d.E = v) :
 Calls Tryz.prog 15 #[pS S] w fun e w' => e = .returned (.tuple #[.int .i64 (if v = 9223372036854775807 then 0 else v),.bool (decide (v ≠ 9223372036854775807))]) ∧ Wider w w':=by
 have slc:=f.sliced H (fun t ht => List.mem_append_right _ (List.mem_append_left _ ht))
 have hlen:=f.len
 have htm:∀ h ∈ d.E,TimeH h:=fun h hh => f.time hh
 obtain ⟨A9,cp9,ehv9,hs⟩:=sto_row H slc
 have u7:=blk_cell H.head 7 (v:=d.hv) rfl
 obtain ⟨nD,hnD⟩ : ∃ n,d.E.length = n:=⟨_,rfl⟩
 rw [ehv9,hnD] at u7
 rw [hnD] at hlen
 have HX:=Lib.hid (And.intro hv (And.intro hs (And.intro hnD htm)))
 have HH:=Lib.hid H
 have g0:=Wider.refl w
 clear H f hv slc ehv9 hnD htm hs
 refine by_post fun Q hQ => ?_
 have HQ:=Lib.hid hQ
 clear hQ
 show Calls Tryz.prog 15 #[.pointer (some ⟨S,0,none⟩)] w Q
 go_enter Tryz.func15,Tryz.ntmps15
 go_wp2
 go_loopw [4,14] (fun a b wr => ∃ (i:Nat) (u:Int),i ≤ nD ∧ a = .int .i64 u ∧ Hid (dueV (d.E.take i) = u) ∧ b = .int .i64 (i:Int) ∧ Wider w wr) (fun _ b _ => nD - (intOf b).toNat)
 case atStart => exact ⟨0,_,Nat.zero_le _,rfl,Lib.hid rfl,rfl,g0⟩
 case round =>
  clear g0
  obtain ⟨i,u,hi,rfl,HU,rfl,G⟩:=hrel
  have i0:(0:Int) ≤ (i:Int):=by omega
  by_cases c:i < nD
  · have i1:(i:Int) < (nD:Int):=by omega
    obtain ⟨hE,hy⟩ : ∃ h,d.E[i]? = some h:=⟨d.E[i]'(by rw [HX.out.2.2.1]; exact c),List.getElem?_eq_getElem _⟩
    obtain ⟨B,rfl,Ay,na,cy,eav,x0,x1,x2,x3,x4,x5,x6,x7,x8,x9,x10,x11,x12,x13⟩:=(HX.out.2.1.on G) i hE hy
    have zh:=zhard_c hE (HX.out.2.2.2 hE (List.mem_of_getElem? hy)) Ay na cy
    have zi:=zidle_c hE (HX.out.2.2.2 hE (List.mem_of_getElem? hy)) Ay na cy
    have hd:=dueV_next hy
    rw [HU.out] at hd
    obtain ⟨hh,hhh⟩ : ∃ r,hardH hE = r:=⟨_,rfl⟩
    obtain ⟨ii,hii⟩ : ∃ r,idleH hE = r:=⟨_,rfl⟩
    rw [hhh] at zh hd
    rw [hii] at zi hd
    clear hhh hii hy eav
    obtain ⟨⟨tb,key,oth,ln,pr,bk,args,idle,hard,ck,tl⟩,av,pl0,put,used⟩:=hE
    have H1:=(HH.out.quiet G).blk #[.int .i64 tb,.string key,.string oth,.int .i64 ln,.int .i64 pr,.int .i64 bk,.slice Ay na cy,.int .i64 idle,.int .i64 hard,.int .u64 ck,.bool tl,.int .i64 (pl0:Int),.int .i64 put,.int .i64 used] 77
    have GW:=G.alloc (.cells #[.int .i64 tb,.string key,.string oth,.int .i64 ln,.int .i64 pr,.int .i64 bk,.slice Ay na cy,.int .i64 idle,.int .i64 hard,.int .u64 ck,.bool tl,.int .i64 (pl0:Int),.int .i64 put,.int .i64 used] 77)
    simp only at x0 x1 x2 x3 x4 x5 x6 x7 x8 x9 x10 x11 x12 x13
    have zh:∀ w,Calls Tryz.prog 41 #[.agg #[.int .i64 tb,.string key,.string oth,.int .i64 ln,.int .i64 pr,.int .i64 bk,.slice Ay na cy,.int .i64 idle,.int .i64 hard,.int .u64 ck,.bool tl,.int .i64 (pl0:Int),.int .i64 put,.int .i64 used]] w fun e w' => e = .returned (.int .i64 hh) ∧ Wider w w':=zh
    have zi:∀ w,Calls Tryz.prog 42 #[.agg #[.int .i64 tb,.string key,.string oth,.int .i64 ln,.int .i64 pr,.int .i64 bk,.slice Ay na cy,.int .i64 idle,.int .i64 hard,.int .u64 ck,.bool tl,.int .i64 (pl0:Int),.int .i64 put,.int .i64 used]] w fun e w' => e = .returned (.int .i64 ii) ∧ Wider w w':=zi
    obtain ⟨pl,hpl⟩ : ∃ pl:Int,(pl0:Int) = pl:=⟨_,rfl⟩
    rw [hpl] at x11 zh zi H1 GW
    clear hpl
    go_upto_region 7 with (fail)
    obtain ⟨W1,hW1⟩ : ∃ W,wr.alloc (.cells #[.int .i64 tb,.string key,.string oth,.int .i64 ln,.int .i64 pr,.int .i64 bk,.slice Ay na cy,.int .i64 idle,.int .i64 hard,.int .u64 ck,.bool tl,.int .i64 pl,.int .i64 put,.int .i64 used] 77) = W:=⟨_,rfl⟩
    obtain ⟨B1,hB1⟩ : ∃ B,wr.heap.size = B:=⟨_,rfl⟩
    rw [hW1,hB1] at H1
    rw [hW1] at GW
    try rw [hW1]
    try rw [hB1]
    clear hW1 hB1 x0 x1 x2 x3 x4 x5 x6 x7 x8 x9 x10 x11 x12 x13
    have c0:=blk_cell H1.head 0 (v:=.int .i64 tb) rfl
    have c1:=blk_cell H1.head 1 (v:=.string key) rfl
    have c2:=blk_cell H1.head 2 (v:=.string oth) rfl
    have c3:=blk_cell H1.head 3 (v:=.int .i64 ln) rfl
    have c4:=blk_cell H1.head 4 (v:=.int .i64 pr) rfl
    have c5:=blk_cell H1.head 5 (v:=.int .i64 bk) rfl
    have c6:=blk_cell H1.head 6 (v:=.slice Ay na cy) rfl
    have c7:=blk_cell H1.head 7 (v:=.int .i64 idle) rfl
    have c8:=blk_cell H1.head 8 (v:=.int .i64 hard) rfl
    have c9:=blk_cell H1.head 9 (v:=.int .u64 ck) rfl
    have c10:=blk_cell H1.head 10 (v:=.bool tl) rfl
    have c11:=blk_cell H1.head 11 (v:=.int .i64 pl) rfl
    have c12:=blk_cell H1.head 12 (v:=.int .i64 put) rfl
    have c13:=blk_cell H1.head 13 (v:=.int .i64 used) rfl
    have f0:=fun (z:After W1) => wkeep z.h c0
    have f1:=fun (z:After W1) => wkeep z.h c1
    have f2:=fun (z:After W1) => wkeep z.h c2
    have f3:=fun (z:After W1) => wkeep z.h c3
    have f4:=fun (z:After W1) => wkeep z.h c4
    have f5:=fun (z:After W1) => wkeep z.h c5
    have f6:=fun (z:After W1) => wkeep z.h c6
    have f7:=fun (z:After W1) => wkeep z.h c7
    have f8:=fun (z:After W1) => wkeep z.h c8
    have f9:=fun (z:After W1) => wkeep z.h c9
    have f10:=fun (z:After W1) => wkeep z.h c10
    have f11:=fun (z:After W1) => wkeep z.h c11
    have f12:=fun (z:After W1) => wkeep z.h c12
    have f13:=fun (z:After W1) => wkeep z.h c13
    have zh2:=fun (z:After W1) => zh z.w
    have zi2:=fun (z:After W1) => zi z.w
    have HD:=Lib.hid hd
    clear H1 c0 c1 c2 c3 c4 c5 c6 c7 c8 c9 c10 c11 c12 c13 zh zi hd
    refine wp_region_after (by kernel_rfl) (by kernel_rfl) (Wider.refl W1) ?_
    repeat (go_big_quiet_step (first
     | (go_at_call 41; with_reducible exact quiet_after (zh2 _))
     | (go_at_call 42; with_reducible exact quiet_after (zi2 _))))
    refine wpQuiet_nil ?_
    rintro _ ⟨z,rfl⟩
    have G2:=GW.trans z.h
    clear zh2 zi2 f0 f1 f2 f3 f4 f5 f6 f7 f8 f9 f10 f11 f12 f13 u7
    have u7:=0
    go_wp2
    go_roundw
    case rel => exact ⟨i + 1,_,by omega,rfl,Lib.hid (HD.out.trans (min_if u hh ii)),by go_num,G2⟩
    case measure => simp [intOf]; omega
  · obtain rfl:i = nD:=by omega
    have q1:¬ (i:Int) < (i:Int):=by omega
    have hu:u = v:=by
     have:=HU.out
     rw [List.take_of_length_le (by have:=HX.out.2.2.1; omega)] at this
     rw [← this]; exact HX.out.1
    subst hu
    by_cases q:u = 9223372036854775807
    · subst q
      go_wp2
      exact HQ.out _ _ ⟨rfl,G⟩
    · have e1:(u == 9223372036854775807) = false:=by rw [beq_eq_false_iff_ne]; exact q
      go_wp2
      exact HQ.out _ _ ⟨by rw [if_neg q,decide_eq_true (show u ≠ 9223372036854775807 from q)],G⟩
theorem ydue_c {V w:World} {R:List Thing} {S:Nat} {s:StM} (h:StoreIs V w R S s):∃ d is,DueIs s.L d is ∧ ∀ W,Wider w W → Calls Tryz.prog 15 #[pS S] W fun e w' => e = .returned (.tuple #[.int .i64 d,.bool is]) ∧ Wider W w':=by
 obtain ⟨Xs,Ts,K,d,rfl,f⟩:=h
 refine ⟨_,_,?_,fun W g => zdue_a (K.quiet g) f rfl⟩
 rw [f.hL]
 exact dueV_is (fun h hh => f.time hh) rfl
def StoK (k:Int) (ws:List Nat) (T:List Thing) (S:Nat) (s:StM):Prop:=∃ Xs,∃ d:StoD,T = d.things S ++ Xs ∧ StF d Xs s ∧ d.t.kind = k ∧ d.ws = ws
def StoreK (k:Int) (ws:List Nat) (V w:World) (R:List Thing) (S:Nat) (s:StM):Prop:=∃ T,Own V w (T ++ R) ∧ StoK k ws T S s
section
variable {V w:World} {R:List Thing} {S:Nat} {s:StM} {k:Int} {ws:List Nat}
theorem StoreK.is (h:StoreK k ws V w R S s):StoreIs V w R S s:=by
 obtain ⟨T,H,Xs,d,rfl,f,_,_⟩:=h
 rw [List.append_assoc] at H
 exact ⟨Xs,_,H,d,rfl,f⟩
theorem StoreK.quiet {w':World} (h:StoreK k ws V w R S s) (g:Wider w w'):StoreK k ws V w' R S s:=by
 obtain ⟨T,H,q⟩:=h; exact ⟨T,H.quiet g,q⟩
theorem StoreK.rest (h:StoreK k ws V w R S s):Own V w R:=h.is.rest
theorem StoreK.wider (h:StoreK k ws V w R S s):Wider V w:=h.is.wider
theorem knew_c (H:Own V w R) (t:TabV) {KA:Option Addr} {kn kc:Nat} (hk:∀ W,Own V W R → NumsAt W (.slice KA kn kc) t.keys) (hl:kn < 1000) {WA:Option Addr} {wn wc:Nat} {zs:List Int} (hz:∀ W,Own V W R → NumsAt W (.slice WA wn wc) zs) (hl2:wn < 1000) (hm:MayTab t zs) :
 Calls Tryz.prog 11 #[.agg (tabC t (.slice KA kn kc)),.slice WA wn wc] w fun e w' => ∃ S,e = .returned (.tuple #[pS S,.int .i64 0]) ∧ StoreK t.kind (zs.map Int.toNat) V w' R S ⟨t.id,kmOf t.kind (zs.map Int.toNat),t.cap.toNat,[],0⟩:=by
 refine (znew_k H t hk hl hz hl2).mono ?_
 rintro e w' (⟨h,_,_⟩ | ⟨_,S,rfl,Xs,Ts,K,d,rfl,f,h1,h2⟩)
 · exact absurd hm h
 · exact ⟨S,rfl,_,by rw [List.append_assoc]; exact K,Xs,d,rfl,f,h1,h2⟩
theorem kput_c (h:StoreK k ws V w R S s) (hN:s.n < 99990) {x:EntV} {av:Value} (ha:∀ W,Own V W R → ArgsAt W av x.args) (ho:x.Ok) (hm:mayT s x = true) (hno:¬ hasE s.L x) (room:s.L.length < s.cap) (now:Int) :
 Calls Tryz.prog 10 #[pS S,entV x av,.int .i64 now] w fun e w' => e = .returned (.int .i64 0) ∧ StoreK k ws V w' R S { s with L:=s.L ++ [⟨x,clampT now,clampT now⟩],n:=s.n + 1 } :=by
 have hr:=h.rest
 obtain ⟨T,K,Xs,d,rfl,f,h1,h2⟩:=h
 rw [List.append_assoc] at K
 obtain ⟨A,n,c,rfl,hn,_⟩:=id (ha w hr)
 have hl:s.L.length = d.E.length:=by rw [f.hL,List.length_map]
 refine (zputN_a K f hN x ha ho hm (fun p hp o => hno ⟨HeldP.m p,by rw [f.hL]; exact List.mem_map.2 ⟨p,hp,rfl⟩,o⟩) (by omega) now).mono ?_
 rintro e w' ⟨rfl,BI,cI,hv,Es2,_,K2,he⟩
 have ep:putS s x now = { s with L:=s.L ++ [⟨x,clampT now,clampT now⟩],n:=s.n + 1 } :=by
  unfold putS
  rw [if_pos ⟨hm,.inr room⟩]
  unfold putE
  rw [butE_none hno]
 rw [← ep]
 exact ⟨rfl,_,by rw [List.append_assoc]; exact K2,_,_,rfl,f.snoc (hv:=hv) (List.Sublist.refl _) (by rw [butE_none hno,f.hL]) hm ho (.inr room) he,h1,h2⟩
def LookO (k:Int) (ws:List Nat) (L:List HeldM) (key:ByteArray) (o:Option HeldM):Prop:=∀ E:List HeldP,E.map HeldP.m = L → (E.Pairwise fun a b => a.pl < b.pl) → ∀ v b,FindK k ws (E.map HeldP.kp) key v b → match o with | none => b = false | some g => b = true ∧ ∀ (i:Nat) (h:HeldP),E[i]? = some h → (h.pl:Int) = v → HeldP.m h = g
theorem look_at {E:List HeldP} {L:List HeldM} {key:ByteArray} {o:Option HeldM} {r:Int} (h:LookO k ws L key o) (hE:E.map HeldP.m = L) (asc:E.Pairwise fun a b => a.pl < b.pl) (hk:key.size = ws.sum) (f:FoundS k ws E key r):(r = -1 ∧ o = none) ∨ ∃ i p,r = ((i:Nat):Int) ∧ E[i]? = some p ∧ o = some (HeldP.m p):=by
 rcases f with ⟨n,_⟩ | ⟨_,v,b,hf,c⟩
 · exact absurd hk n
 · have q:=h E hE asc v b hf
   rcases c with ⟨rfl,rfl⟩ | ⟨rfl,i,p,hi,hp,rfl⟩
   · cases o with
     | none => exact .inl ⟨rfl,rfl⟩
     | some g => exact absurd q.1 (by decide)
   · cases o with
     | none => exact Bool.noConfusion (show true = false from q)
     | some g => exact .inr ⟨i,p,rfl,hi,by rw [q.2 i p hi hp]⟩
theorem klook_c (h:StoreK k ws V w R S s) (hN:s.n < 99990) (key:ByteArray) (hk:key.size = ws.sum) (hk2:key.size < 1000) {o:Option HeldM} (ho:LookO k ws s.L key o) :
 Calls Tryz.prog 14 #[pS S,.string key] w fun e w' => (∃ x A n c,x = (match o with | none => zeroX | some g => g.x) ∧ e = .returned (.tuple #[entV x (.slice A n c),.bool o.isSome])) ∧ StoreK k ws V w' R S s:=by
 obtain ⟨T,K,Xs,d,rfl,f,h1,h2⟩:=h
 rw [List.append_assoc] at K
 refine (zlook_a K f hN key (by omega)).mono ?_
 rintro e w' ⟨r,Es2,hf,he,c⟩
 rw [h1,h2] at hf
 have f2:StF { d with Es:=Es2 } Xs s:={ f with eng:=he }
 rcases look_at ho f.hL.symm f.asc hk hf with ⟨rfl,rfl⟩ | ⟨i,p,rfl,hp,rfl⟩
 · rcases c with ⟨_,rfl,K2⟩ | ⟨i,h,BI,na,cI,q,_⟩
   · exact ⟨⟨_,_,_,_,rfl,rfl⟩,_,by rw [List.append_assoc]; exact K2,Xs,_,rfl,f2,h1,h2⟩
   · omega
 · rcases c with ⟨q,_⟩ | ⟨i2,h,BI,na,cI,q,hi,_,rfl,K2⟩
   · omega
   · have e:i2 = i:=by omega
     subst e
     rw [hp] at hi
     cases hi
     exact ⟨⟨_,_,_,_,rfl,rfl⟩,_,by rw [List.append_assoc]; exact own_unbox K2,Xs,_,rfl,f2,h1,h2⟩
theorem kfind_c (h:StoreK k ws V w R S s) (hN:s.n < 99990) (key:ByteArray) (hk:key.size = ws.sum) (hk2:key.size < 1000) {g:HeldM} (hL:s.L = [g]) (ho:LookO k ws s.L key (some g)) (now:Int) :
 Calls Tryz.prog 13 #[pS S,.string key,.int .i64 now] w fun e w' => (∃ v,e = .returned v) ∧ StoreK k ws V w' R S { s with L:=[{ g with found:=clampT now }] } :=by
 obtain ⟨T,K,Xs,d,rfl,f,h1,h2⟩:=h
 rw [List.append_assoc] at K
 refine (zfind_a K f hN key (by omega) now).mono ?_
 rintro e w' ⟨r,Es2,hf,he,c⟩
 rw [h1,h2] at hf
 rcases look_at ho f.hL.symm f.asc hk hf with ⟨rfl,q⟩ | ⟨i,p,rfl,hp,q⟩
 · cases q
 · rcases c with ⟨q,_⟩ | ⟨i2,h,BI,na,cI,q2,hi,_,rfl,K2⟩
   · omega
   · have e:i2 = i:=by omega
     subst e
     rw [hp] at hi
     cases hi
     have eg:HeldP.m p = g:=by cases q; rfl
     have hL2:d.E.map HeldP.m = [g]:=by rw [← f.hL,hL]
     have l1:d.E.length = 1:=by have:=congrArg List.length hL2; rw [List.length_map] at this; exact this
     obtain ⟨hi2,ep⟩:=List.getElem?_eq_some_iff.1 hp
     have i0:i2 = 0:=by omega
     subst i0
     have eE:d.E.set 0 (p.at_ (clampT now)) = [p.at_ (clampT now)]:=by
      match hE:d.E,l1 with
      | [y],_ => rfl
     have f2:=f.used hp (clampT_le now) he
     have eL:(d.E.set 0 (p.at_ (clampT now))).map HeldP.m = [{ g with found:=clampT now }]:=by
      rw [eE,← eg]; rfl
     rw [eL] at f2
     exact ⟨⟨_,rfl⟩,_,by rw [List.append_assoc]; exact own_unbox K2,Xs,_,rfl,f2,h1,h2⟩
end
end Go.Proofs.YtbnpelciceblfaaGreat
