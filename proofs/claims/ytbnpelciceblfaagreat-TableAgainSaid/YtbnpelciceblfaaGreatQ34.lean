/- ZAwake ZCopyE -/
import Derived.Test.YtbnpelciceblfaaGreatQ33
import Derived.Test.YtbnpelciceblfaaGreatQ18
namespace Go.Proofs.YtbnpelciceblfaaGreat
set_option linter.unusedVariables false
open Go.ChangeShapes Go.WideShapes Go.ChangeAt Go.RowKit Go.Joins
set_option maxHeartbeats 64000000
theorem map_one {E:List HeldP} {g:HeldM} (h:E.map HeldP.m = [g]):∃ av pl,E = [⟨g.x,av,pl,g.put,g.found⟩]:=by
 match E,h with
 | [⟨x,av,pl,put,used⟩],h => cases h; exact ⟨av,pl,rfl⟩
theorem map_two {E:List HeldP} {g h:HeldM} (k:E.map HeldP.m = [g,h]):∃ av pl av2 pl2,E = [⟨g.x,av,pl,g.put,g.found⟩,⟨h.x,av2,pl2,h.put,h.found⟩]:=by
 match E,k with
 | [⟨x,av,pl,put,used⟩,⟨x2,av2,pl2,put2,used2⟩],k => cases k; exact ⟨av,pl,av2,pl2,rfl⟩
theorem one_at {p h:HeldP} {i:Nat} (k:[p][i]? = some h):h = p:=by
 have:=List.mem_of_getElem? k
 simpa using this
theorem look1 (ws:List Nat) (g:HeldM):LookO 1 ws [g] g.x.key (some g):=by
 intro E hE asc v b f
 obtain ⟨av,pl,rfl⟩:=map_one hE
 rcases f.f1 rfl with ⟨hb,_⟩ | ⟨_,no⟩
 · exact ⟨hb,fun i h hi _ => by rw [one_at hi]; rfl⟩
 · exact absurd rfl (no _ (.head _))
theorem look4 (ws:List Nat) (g:HeldM) (key:ByteArray) (y:∀ pl:Nat,(findR ws key [⟨g.x.key,g.x.oth,g.x.pr,(pl:Int)⟩]).isSome = true):LookO 4 ws [g] key (some g):=by
 intro E hE asc v b f
 obtain ⟨av,pl,rfl⟩:=map_one hE
 obtain ⟨_,hb⟩:=f.f4 rfl
 exact ⟨by rw [hb]; exact y pl,fun i h hi _ => by rw [one_at hi]; rfl⟩
theorem look4n (ws:List Nat) (g:HeldM) (key:ByteArray) (y:∀ pl:Nat,(findR ws key [⟨g.x.key,g.x.oth,g.x.pr,(pl:Int)⟩]).isSome = false):LookO 4 ws [g] key none:=by
 intro E hE asc v b f
 obtain ⟨av,pl,rfl⟩:=map_one hE
 obtain ⟨_,hb⟩:=f.f4 rfl
 show b = false
 rw [hb]; exact y pl
theorem look2 (ws:List Nat) (g h:HeldM) (key:ByteArray) (m2:(bitL key).take h.x.ln.toNat = bitsE h.x) (l:g.x.ln < h.x.ln):LookO 2 ws [g,h] key (some h):=by
 intro E hE asc v b f
 obtain ⟨av,pl,av2,pl2,rfl⟩:=map_two hE
 have lt:pl < pl2:=(List.pairwise_cons.1 asc).1 _ (.head _)
 rcases f.f2 rfl with ⟨hb,m,hm,_,hv,mx⟩ | ⟨_,no⟩
 · have mx2:h.x.ln ≤ m.1.ln:=mx (h.x,pl2) (.tail _ (.head _)) m2
   have ev:v = (pl2:Int):=by
    have hm:m ∈ [(g.x,pl),(h.x,pl2)]:=hm
    rcases List.mem_cons.1 hm with rfl | hm
    · have:h.x.ln ≤ g.x.ln:=mx2
      omega
    · obtain rfl:m = (h.x,pl2):=by simpa using hm
      exact hv
   refine ⟨hb,fun i p hp hq => ?_⟩
   have hp2:=List.mem_of_getElem? hp
   rcases List.mem_cons.1 hp2 with rfl | hp2
   · have:((pl:Nat):Int) = v:=hq
     omega
   · obtain rfl:p = _:=by simpa using hp2
     rfl
 · exact absurd m2 (no (h.x,pl2) (.tail _ (.head _)))
theorem look2a (ws:List Nat) (g h:HeldM) (key:ByteArray) (m1:(bitL key).take g.x.ln.toNat = bitsE g.x) (m2:(bitL key).take h.x.ln.toNat ≠ bitsE h.x):LookO 2 ws [g,h] key (some g):=by
 intro E hE asc v b f
 obtain ⟨av,pl,av2,pl2,rfl⟩:=map_two hE
 have lt:pl < pl2:=(List.pairwise_cons.1 asc).1 _ (.head _)
 rcases f.f2 rfl with ⟨hb,m,hm,mt,hv,mx⟩ | ⟨_,no⟩
 · have ev:v = (pl:Int):=by
    have hm:m ∈ [(g.x,pl),(h.x,pl2)]:=hm
    rcases List.mem_cons.1 hm with rfl | hm
    · exact hv
    · obtain rfl:m = (h.x,pl2):=by simpa using hm
      exact absurd mt m2
   refine ⟨hb,fun i p hp hq => ?_⟩
   have hp2:=List.mem_of_getElem? hp
   rcases List.mem_cons.1 hp2 with rfl | hp2
   · rfl
   · obtain rfl:p = _:=by simpa using hp2
     have:((pl2:Nat):Int) = v:=hq
     omega
 · exact absurd m1 (no (g.x,pl) (.head _))
theorem due_one {g:HeldM} {u d:Int} {is:Bool} (h:DueIs [g] d is) (k:∀ v,DueH g v ↔ v = u):d = u ∧ is = true:=by
 rcases h with ⟨_,_,h⟩ | ⟨rfl,⟨p,hp,hd⟩,_⟩
 · exact absurd ((k u).2 rfl) (h g (.head _) u)
 · obtain rfl:p = g:=by simpa using hp
   exact ⟨(k d).1 hd,rfl⟩
def Four (V w:World) (R:List Thing) (D:Nat) (sd:StM) (C:Nat) (sc:StM) (B:Nat) (sb:StM) (A:Nat) (sa:StM):Prop:=∃ TD TC TB TA,Own V w (TD ++ (TC ++ (TB ++ (TA ++ R)))) ∧ StoK 1 [1] TD D sd ∧ StoK 4 [1,1] TC C sc ∧ StoK 2 [1] TB B sb ∧ StoK 1 [1] TA A sa
section
variable {V w:World} {R:List Thing} {A B C D:Nat} {sa sb sc sd:StM}
theorem Four.d (h:Four V w R D sd C sc B sb A sa):∃ R',StoreK 1 [1] V w R' D sd ∧ ∀ w' s',StoreK 1 [1] V w' R' D s' → Four V w' R D s' C sc B sb A sa:=by
 obtain ⟨TD,TC,TB,TA,H,h1,h2,h3,h4⟩:=h
 exact ⟨_,⟨TD,H,h1⟩,fun w' s' ⟨T,H2,k⟩ => ⟨T,TC,TB,TA,H2,k,h2,h3,h4⟩⟩
theorem Four.c (h:Four V w R D sd C sc B sb A sa):∃ R',StoreK 4 [1,1] V w R' C sc ∧ ∀ w' s',StoreK 4 [1,1] V w' R' C s' → Four V w' R D sd C s' B sb A sa:=by
 obtain ⟨TD,TC,TB,TA,H,h1,h2,h3,h4⟩:=h
 exact ⟨_,⟨TC,H.perm (perm_mid TD TC _),h2⟩,fun w' s' ⟨T,H2,k⟩ => ⟨TD,T,TB,TA,H2.perm (perm_mid T TD _),h1,k,h3,h4⟩⟩
theorem Four.b (h:Four V w R D sd C sc B sb A sa):∃ R',StoreK 2 [1] V w R' B sb ∧ ∀ w' s',StoreK 2 [1] V w' R' B s' → Four V w' R D sd C sc B s' A sa:=by
 obtain ⟨TD,TC,TB,TA,H,h1,h2,h3,h4⟩:=h
 exact ⟨_,⟨TB,H.perm (((perm_mid TC TB _).append_left TD).trans (perm_mid TD TB _)),h3⟩,fun w' s' ⟨T,H2,k⟩ => ⟨TD,TC,T,TA,H2.perm ((perm_mid T TD _).trans ((perm_mid T TC _).append_left TD)),h1,h2,k,h4⟩⟩
theorem Four.a (h:Four V w R D sd C sc B sb A sa):∃ R',StoreK 1 [1] V w R' A sa ∧ ∀ w' s',StoreK 1 [1] V w' R' A s' → Four V w' R D sd C sc B sb A s':=by
 obtain ⟨TD,TC,TB,TA,H,h1,h2,h3,h4⟩:=h
 exact ⟨_,⟨TA,H.perm ((((perm_mid TB TA _).append_left TC).append_left TD).trans (((perm_mid TC TA _).append_left TD).trans (perm_mid TD TA _))),h4⟩,fun w' s' ⟨T,H2,k⟩ => ⟨TD,TC,TB,T,H2.perm ((perm_mid T TD _).trans (((perm_mid T TC _).append_left TD).trans (((perm_mid T TB _).append_left TC).append_left TD))),h1,h2,h3,k⟩⟩
theorem Four.gone (h:Four V w R D sd C sc B sb A sa):∃ R',StoreIs V w R' A sa ∧ ∀ w' M s',StoreIs V w' (M ++ R') A s' → ∃ R2,StoreK 1 [1] V w' (M ++ R2) D sd:=by
 obtain ⟨TD,TC,TB,TA,H,h1,h2,h3,h4⟩:=h
 refine ⟨_,StoreK.is ⟨TA,H.perm ((((perm_mid TB TA _).append_left TC).append_left TD).trans (((perm_mid TC TA _).append_left TD).trans (perm_mid TD TA _))),h4⟩,fun w' M s' k => ⟨TC ++ (TB ++ R),TD,?_,h1⟩⟩
 exact k.rest.perm (perm_mid M TD _)
end
theorem okXA:(putX 1 ⟨#[97]⟩ ⟨#[]⟩ 0 1 0 10).Ok:=by
 constructor <;> first | decide +kernel | (intro x hx; cases hx)
theorem okXB1:(putX 1 ⟨#[192]⟩ ⟨#[]⟩ 2 1 0 0).Ok:=by
 constructor <;> first | decide +kernel | (intro x hx; cases hx)
theorem okXB2:(putX 1 ⟨#[192]⟩ ⟨#[]⟩ 8 2 0 0).Ok:=by
 constructor <;> first | decide +kernel | (intro x hx; cases hx)
theorem okXC:(putX 1 ⟨#[1,1]⟩ ⟨#[2,2]⟩ 0 3 0 0).Ok:=by
 constructor <;> first | decide +kernel | (intro x hx; cases hx)
theorem okXD:(putX 1 ⟨#[97]⟩ ⟨#[]⟩ 0 1 4 0).Ok:=by
 constructor <;> first | decide +kernel | (intro x hx; cases hx)
theorem mayA:mayT (⟨1,kmOf 1 [1],9,[],0⟩ : StM) (putX 1 ⟨#[97]⟩ ⟨#[]⟩ 0 1 0 10) = true:=by decide +kernel
theorem mayB1:mayT (⟨1,kmOf 2 [1],9,[],0⟩ : StM) (putX 1 ⟨#[192]⟩ ⟨#[]⟩ 2 1 0 0) = true:=by decide +kernel
theorem mayC:mayT (⟨1,kmOf 4 [1,1],9,[],0⟩ : StM) (putX 1 ⟨#[1,1]⟩ ⟨#[2,2]⟩ 0 3 0 0) = true:=by decide +kernel
theorem mayD:mayT (⟨1,kmOf 1 [1],9,[],0⟩ : StM) (putX 1 ⟨#[97]⟩ ⟨#[]⟩ 0 1 4 0) = true:=by decide +kernel
theorem mayB2:mayT (⟨1,kmOf 2 [1],9,[(⟨putX 1 ⟨#[192]⟩ ⟨#[]⟩ 2 1 0 0,0,0⟩ : HeldM)],1⟩ : StM) (putX 1 ⟨#[192]⟩ ⟨#[]⟩ 8 2 0 0) = true:=by decide +kernel
theorem noB2:¬ hasE [(⟨putX 1 ⟨#[192]⟩ ⟨#[]⟩ 2 1 0 0,0,0⟩ : HeldM)] (putX 1 ⟨#[192]⟩ ⟨#[]⟩ 8 2 0 0):=by decide +kernel
theorem no_has (x:EntV):¬ hasE [] x:=fun ⟨h,hh,_⟩ => by cases hh
theorem outA14:outT (clampT 14) [(⟨putX 1 ⟨#[97]⟩ ⟨#[]⟩ 0 1 0 10,5,5⟩ : HeldM)] = []:=by decide +kernel
theorem outA15:outT (clampT 15) [(⟨putX 1 ⟨#[97]⟩ ⟨#[]⟩ 0 1 0 10,5,5⟩ : HeldM)] = [(putX 1 ⟨#[97]⟩ ⟨#[]⟩ 0 1 0 10,1)]:=by rfl
theorem dueA (v:Int):DueH (⟨putX 1 ⟨#[97]⟩ ⟨#[]⟩ 0 1 0 10,5,5⟩ : HeldM) v ↔ v = 15:=by
 unfold DueH
 show (0 < (10:Int) ∧ v = 5 + 10) ∨ (0 < (0:Int) ∧ v = 5 + 0) ↔ v = 15
 omega
theorem dueD (v:Int):DueH (⟨putX 1 ⟨#[97]⟩ ⟨#[]⟩ 0 1 4 0,5,7⟩ : HeldM) v ↔ v = 11:=by
 unfold DueH
 show (0 < (0:Int) ∧ v = 5 + 0) ∨ (0 < (4:Int) ∧ v = 7 + 4) ↔ v = 11
 omega
theorem lookB:LookO 2 [1] [(⟨putX 1 ⟨#[192]⟩ ⟨#[]⟩ 2 1 0 0,0,0⟩ : HeldM),(⟨putX 1 ⟨#[192]⟩ ⟨#[]⟩ 8 2 0 0,0,0⟩ : HeldM)] ⟨#[192]⟩ (some (⟨putX 1 ⟨#[192]⟩ ⟨#[]⟩ 8 2 0 0,0,0⟩ : HeldM)):=look2 _ _ _ _ (by decide +kernel) (by decide)
theorem lookB1:LookO 2 [1] [(⟨putX 1 ⟨#[192]⟩ ⟨#[]⟩ 2 1 0 0,0,0⟩ : HeldM),(⟨putX 1 ⟨#[192]⟩ ⟨#[]⟩ 8 2 0 0,0,0⟩ : HeldM)] ⟨#[193]⟩ (some (⟨putX 1 ⟨#[192]⟩ ⟨#[]⟩ 2 1 0 0,0,0⟩ : HeldM)):=look2a _ _ _ _ (by decide +kernel) (by decide +kernel)
theorem lookC:LookO 4 [1,1] [(⟨putX 1 ⟨#[1,1]⟩ ⟨#[2,2]⟩ 0 3 0 0,0,0⟩ : HeldM)] ⟨#[1,2]⟩ (some (⟨putX 1 ⟨#[1,1]⟩ ⟨#[2,2]⟩ 0 3 0 0,0,0⟩ : HeldM)):=look4 _ _ _ fun pl => by rfl
theorem lookCn:LookO 4 [1,1] [(⟨putX 1 ⟨#[1,1]⟩ ⟨#[2,2]⟩ 0 3 0 0,0,0⟩ : HeldM)] ⟨#[1,3]⟩ none:=look4n _ _ _ fun pl => by rfl
abbrev sA0:StM:=(⟨1,kmOf 1 [1],9,[],0⟩ : StM)
abbrev sA1:StM:=(⟨1,kmOf 1 [1],9,[(⟨putX 1 ⟨#[97]⟩ ⟨#[]⟩ 0 1 0 10,5,5⟩ : HeldM)],1⟩ : StM)
abbrev sB0:StM:=(⟨1,kmOf 2 [1],9,[],0⟩ : StM)
abbrev sB1:StM:=(⟨1,kmOf 2 [1],9,[(⟨putX 1 ⟨#[192]⟩ ⟨#[]⟩ 2 1 0 0,0,0⟩ : HeldM)],1⟩ : StM)
abbrev sB2:StM:=(⟨1,kmOf 2 [1],9,[(⟨putX 1 ⟨#[192]⟩ ⟨#[]⟩ 2 1 0 0,0,0⟩ : HeldM),(⟨putX 1 ⟨#[192]⟩ ⟨#[]⟩ 8 2 0 0,0,0⟩ : HeldM)],2⟩ : StM)
abbrev sC0:StM:=(⟨1,kmOf 4 [1,1],9,[],0⟩ : StM)
abbrev sC1:StM:=(⟨1,kmOf 4 [1,1],9,[(⟨putX 1 ⟨#[1,1]⟩ ⟨#[2,2]⟩ 0 3 0 0,0,0⟩ : HeldM)],1⟩ : StM)
abbrev sD0:StM:=(⟨1,kmOf 1 [1],9,[],0⟩ : StM)
abbrev sD1:StM:=(⟨1,kmOf 1 [1],9,[(⟨putX 1 ⟨#[97]⟩ ⟨#[]⟩ 0 1 4 0,5,5⟩ : HeldM)],1⟩ : StM)
abbrev sD2:StM:=(⟨1,kmOf 1 [1],9,[(⟨putX 1 ⟨#[97]⟩ ⟨#[]⟩ 0 1 4 0,5,7⟩ : HeldM)],1⟩ : StM)
theorem stA1:({ sA0 with L:=sA0.L ++ [⟨putX 1 ⟨#[97]⟩ ⟨#[]⟩ 0 1 0 10,clampT 5,clampT 5⟩],n:=sA0.n + 1 } : StM) = sA1:=by rfl
theorem stB1:({ sB0 with L:=sB0.L ++ [⟨putX 1 ⟨#[192]⟩ ⟨#[]⟩ 2 1 0 0,clampT 0,clampT 0⟩],n:=sB0.n + 1 } : StM) = sB1:=by rfl
theorem stB2:({ sB1 with L:=sB1.L ++ [⟨putX 1 ⟨#[192]⟩ ⟨#[]⟩ 8 2 0 0,clampT 0,clampT 0⟩],n:=sB1.n + 1 } : StM) = sB2:=by rfl
theorem stC1:({ sC0 with L:=sC0.L ++ [⟨putX 1 ⟨#[1,1]⟩ ⟨#[2,2]⟩ 0 3 0 0,clampT 0,clampT 0⟩],n:=sC0.n + 1 } : StM) = sC1:=by rfl
theorem stD1:({ sD0 with L:=sD0.L ++ [⟨putX 1 ⟨#[97]⟩ ⟨#[]⟩ 0 1 4 0,clampT 5,clampT 5⟩],n:=sD0.n + 1 } : StM) = sD1:=by rfl
theorem nums1 {V W:World} {R:List Thing} {B:Nat} (H:Own V W (blkT B #[.int .i64 1] 3 :: R)):NumsAt W (.slice (some ⟨B,0,none⟩) 1 1) [1]:=nums_blk (zs:=[1]) H (.head _) rfl
theorem nums2 {V W:World} {R:List Thing} {B:Nat} (H:Own V W (blkT B #[.int .i64 1,.int .i64 1] 3 :: R)):NumsAt W (.slice (some ⟨B,0,none⟩) 2 2) [1,1]:=nums_blk (zs:=[1,1]) H (.head _) rfl
section
variable {V w:World} {R:List Thing} {S:Nat}
theorem mtA:MayTab ⟨1,1,[0],9,0⟩ [1]:=by decide +kernel
theorem newA_c (H:Own V w R):Calls Tryz.prog 8 #[.int .u8 1,.int .i64 9,.slice (some ⟨w.heap.size,0,none⟩) 1 1] (w.alloc (.cells #[.int .i64 1] 3)) fun e w' => ∃ S T,e = .returned (.pointer (some ⟨S,0,none⟩)) ∧ Own V w' (T ++ R) ∧ StoK 1 [1] T S sA0:=by
 refine (of1_c (kind:=1) (room:=9) (zs:=[1]) (wc:=1) (H.blk #[.int .i64 1] 3) (fun W k => nums1 k) mtA).mono ?_
 rintro e w' ⟨S,rfl,K⟩
 obtain ⟨T,H2,q⟩ : StoreK 1 [1] V w' R S sA0:=K.less
 exact ⟨S,T,rfl,H2,q⟩
theorem mtB:MayTab ⟨1,2,[0],9,0⟩ [1]:=by decide +kernel
theorem newB_c (H:Own V w R):Calls Tryz.prog 8 #[.int .u8 2,.int .i64 9,.slice (some ⟨w.heap.size,0,none⟩) 1 1] (w.alloc (.cells #[.int .i64 1] 3)) fun e w' => ∃ S T,e = .returned (.pointer (some ⟨S,0,none⟩)) ∧ Own V w' (T ++ R) ∧ StoK 2 [1] T S sB0:=by
 refine (of1_c (kind:=2) (room:=9) (zs:=[1]) (wc:=1) (H.blk #[.int .i64 1] 3) (fun W k => nums1 k) mtB).mono ?_
 rintro e w' ⟨S,rfl,K⟩
 obtain ⟨T,H2,q⟩ : StoreK 2 [1] V w' R S sB0:=K.less
 exact ⟨S,T,rfl,H2,q⟩
theorem mtC:MayTab ⟨1,4,[0,0],9,0⟩ [1,1]:=by decide +kernel
theorem newC_c (H:Own V w R):Calls Tryz.prog 8 #[.int .u8 4,.int .i64 9,.slice (some ⟨w.heap.size,0,none⟩) 2 2] (w.alloc (.cells #[.int .i64 1,.int .i64 1] 3)) fun e w' => ∃ S T,e = .returned (.pointer (some ⟨S,0,none⟩)) ∧ Own V w' (T ++ R) ∧ StoK 4 [1,1] T S sC0:=by
 refine (of2_c (kind:=4) (room:=9) (zs:=[1,1]) (wc:=2) (H.blk #[.int .i64 1,.int .i64 1] 3) (fun W k => nums2 k) mtC).mono ?_
 rintro e w' ⟨S,rfl,K⟩
 obtain ⟨T,H2,q⟩ : StoreK 4 [1,1] V w' R S sC0:=K.less
 exact ⟨S,T,rfl,H2,q⟩
theorem step1_c (K:StoreK 1 [1] V w R S sA0):Calls Tryz.prog 28 #[.pointer (some ⟨S,0,none⟩),.agg #[.int .i64 0,.string ⟨#[97]⟩,.string ⟨#[]⟩,.int .i64 0,.int .i64 0,.int .i64 1,.slice none 0 0,.int .i64 0,.int .i64 10,.int .u64 0,.bool false],.int .i64 5] w fun e w' => e = .returned (.bool true) ∧ StoreK 1 [1] V w' R S sA1:=by
 rw [← stA1]
 exact puts_c (s:=sA0) K (by decide) ⟨#[97]⟩ ⟨#[]⟩ 0 1 0 10 5 okXA mayA (no_has _) (by decide)
theorem step2_c (K:StoreK 1 [1] V w R S sA1):Calls Tryz.prog 29 #[.pointer (some ⟨S,0,none⟩),.string ⟨#[97]⟩,.int .i64 1] w fun e w' => e = .returned (.bool true) ∧ StoreK 1 [1] V w' R S sA1 :=
 finds_c (s:=sA1) K (by decide) ⟨#[97]⟩ (by decide +kernel) (by decide +kernel) (look1 [1] (⟨putX 1 ⟨#[97]⟩ ⟨#[]⟩ 0 1 0 10,5,5⟩ : HeldM)) 1 (show (⟨putX 1 ⟨#[97]⟩ ⟨#[]⟩ 0 1 0 10,5,5⟩ : HeldM).x.bk = 1 ∧ (0:Int) < 1 from ⟨rfl,by decide⟩)
theorem step3_c (K:StoreK 2 [1] V w R S sB0):Calls Tryz.prog 28 #[.pointer (some ⟨S,0,none⟩),.agg #[.int .i64 0,.string ⟨#[192]⟩,.string ⟨#[]⟩,.int .i64 2,.int .i64 0,.int .i64 1,.slice none 0 0,.int .i64 0,.int .i64 0,.int .u64 0,.bool false],.int .i64 0] w fun e w' => e = .returned (.bool true) ∧ StoreK 2 [1] V w' R S sB1:=by
 rw [← stB1]
 exact puts_c (s:=sB0) K (by decide) ⟨#[192]⟩ ⟨#[]⟩ 2 1 0 0 0 okXB1 mayB1 (no_has _) (by decide)
theorem step4_c (K:StoreK 2 [1] V w R S sB1):Calls Tryz.prog 28 #[.pointer (some ⟨S,0,none⟩),.agg #[.int .i64 0,.string ⟨#[192]⟩,.string ⟨#[]⟩,.int .i64 8,.int .i64 0,.int .i64 2,.slice none 0 0,.int .i64 0,.int .i64 0,.int .u64 0,.bool false],.int .i64 0] w fun e w' => e = .returned (.bool true) ∧ StoreK 2 [1] V w' R S sB2:=by
 rw [← stB2]
 exact puts_c (s:=sB1) K (by decide) ⟨#[192]⟩ ⟨#[]⟩ 8 2 0 0 0 okXB2 mayB2 noB2 (by decide)
theorem step5_c (K:StoreK 2 [1] V w R S sB2):Calls Tryz.prog 29 #[.pointer (some ⟨S,0,none⟩),.string ⟨#[192]⟩,.int .i64 2] w fun e w' => e = .returned (.bool true) ∧ StoreK 2 [1] V w' R S sB2 :=
 finds_c (s:=sB2) K (by decide) ⟨#[192]⟩ (by decide +kernel) (by decide +kernel) lookB 2 (show (⟨putX 1 ⟨#[192]⟩ ⟨#[]⟩ 8 2 0 0,0,0⟩ : HeldM).x.bk = 2 ∧ (0:Int) < 2 from ⟨rfl,by decide⟩)
theorem step6_c (K:StoreK 2 [1] V w R S sB2):Calls Tryz.prog 29 #[.pointer (some ⟨S,0,none⟩),.string ⟨#[193]⟩,.int .i64 1] w fun e w' => e = .returned (.bool true) ∧ StoreK 2 [1] V w' R S sB2 :=
 finds_c (s:=sB2) K (by decide) ⟨#[193]⟩ (by decide +kernel) (by decide +kernel) lookB1 1 (show (⟨putX 1 ⟨#[192]⟩ ⟨#[]⟩ 2 1 0 0,0,0⟩ : HeldM).x.bk = 1 ∧ (0:Int) < 1 from ⟨rfl,by decide⟩)
theorem step7_c (K:StoreK 4 [1,1] V w R S sC0):Calls Tryz.prog 28 #[.pointer (some ⟨S,0,none⟩),.agg #[.int .i64 0,.string ⟨#[1,1]⟩,.string ⟨#[2,2]⟩,.int .i64 0,.int .i64 0,.int .i64 3,.slice none 0 0,.int .i64 0,.int .i64 0,.int .u64 0,.bool false],.int .i64 0] w fun e w' => e = .returned (.bool true) ∧ StoreK 4 [1,1] V w' R S sC1:=by
 rw [← stC1]
 exact puts_c (s:=sC0) K (by decide) ⟨#[1,1]⟩ ⟨#[2,2]⟩ 0 3 0 0 0 okXC mayC (no_has _) (by decide)
theorem step8_c (K:StoreK 4 [1,1] V w R S sC1):Calls Tryz.prog 29 #[.pointer (some ⟨S,0,none⟩),.string ⟨#[1,2]⟩,.int .i64 3] w fun e w' => e = .returned (.bool true) ∧ StoreK 4 [1,1] V w' R S sC1 :=
 finds_c (s:=sC1) K (by decide) ⟨#[1,2]⟩ (by decide +kernel) (by decide +kernel) lookC 3 (show (⟨putX 1 ⟨#[1,1]⟩ ⟨#[2,2]⟩ 0 3 0 0,0,0⟩ : HeldM).x.bk = 3 ∧ (0:Int) < 3 from ⟨rfl,by decide⟩)
theorem step9_c (K:StoreK 4 [1,1] V w R S sC1):Calls Tryz.prog 29 #[.pointer (some ⟨S,0,none⟩),.string ⟨#[1,3]⟩,.int .i64 0] w fun e w' => e = .returned (.bool true) ∧ StoreK 4 [1,1] V w' R S sC1 :=
 finds_c (s:=sC1) K (by decide) ⟨#[1,3]⟩ (by decide +kernel) (by decide +kernel) lookCn 0 rfl
theorem step10_c (K:StoreK 1 [1] V w R S sD0):Calls Tryz.prog 28 #[.pointer (some ⟨S,0,none⟩),.agg #[.int .i64 0,.string ⟨#[97]⟩,.string ⟨#[]⟩,.int .i64 0,.int .i64 0,.int .i64 1,.slice none 0 0,.int .i64 4,.int .i64 0,.int .u64 0,.bool false],.int .i64 5] w fun e w' => e = .returned (.bool true) ∧ StoreK 1 [1] V w' R S sD1:=by
 rw [← stD1]
 exact puts_c (s:=sD0) K (by decide) ⟨#[97]⟩ ⟨#[]⟩ 0 1 4 0 5 okXD mayD (no_has _) (by decide)
theorem dueA_c (K:StoreIs V w R S sA1):Calls Tryz.prog 15 #[.pointer (some ⟨S,0,none⟩)] w fun e w' => e = .returned (.tuple #[.int .i64 15,.bool true]) ∧ StoreIs V w' R S sA1:=by
 obtain ⟨d,i,hd,zd⟩:=ydue_c K
 obtain ⟨rfl,rfl⟩:=due_one hd dueA
 refine (zd w (Wider.refl w)).mono ?_
 rintro e w' ⟨rfl,g⟩
 exact ⟨rfl,K.quiet g⟩
theorem dueD_c (K:StoreK 1 [1] V w R S sD2):Calls Tryz.prog 15 #[.pointer (some ⟨S,0,none⟩)] w fun e w' => e = .returned (.tuple #[.int .i64 11,.bool true]) ∧ Own V w' R:=by
 obtain ⟨d,i,hd,zd⟩:=ydue_c K.is
 obtain ⟨rfl,rfl⟩:=due_one hd dueD
 refine (zd w (Wider.refl w)).mono ?_
 rintro e w' ⟨rfl,g⟩
 exact ⟨rfl,K.rest.quiet g⟩
theorem exp14_c (K:StoreIs V w R S sA1):Calls Tryz.prog 17 #[.pointer (some ⟨S,0,none⟩),.int .i64 14] w fun e w' => ∃ B c M,e = .returned (.slice B 0 c) ∧ StoreIs V w' (M ++ R) S sA1:=by
 refine (yexpire_c (s:=sA1) K (by decide) 14 (n:=0) (by rw [outA14]; rfl)).mono ?_
 rintro e w' ⟨B,c,G,rfl,hG,K2⟩
 exact ⟨B,c,_,rfl,K2⟩
def GoneC (V:World) (M:List Thing) (Bk:Nat):Prop:=∀ W L,Own V W L → (∀ t ∈ M,t ∈ L) → W.cell? ⟨Bk,11,none⟩ = some (.int .i64 1) ∧ W.cell? ⟨Bk,5,none⟩ = some (.int .i64 1)
theorem exp15_c {M1:List Thing} (K:StoreIs V w (M1 ++ R) S sA1):Calls Tryz.prog 17 #[.pointer (some ⟨S,0,none⟩),.int .i64 15] w fun e w' => ∃ Bk c M s2,e = .returned (.slice (some ⟨Bk,0,none⟩) 1 c) ∧ StoreIs V w' (M ++ R) S s2 ∧ GoneC V M Bk:=by
 refine (yexpire_c (s:=sA1) K (by decide) 15 (n:=1) (by rw [outA15]; rfl)).mono ?_
 rintro e w' ⟨B,c,G,rfl,hG,K2⟩
 rw [outA15] at hG
 rw [← List.append_assoc] at K2
 have gl:G.length = 1:=by have:=congrArg List.length hG; rw [List.length_map] at this; exact this
 have ga:∀ W L,Own V W L → (∀ t ∈ gonesT (.slice B 1 c) 1 G,t ∈ L) → ∃ Bk,B = some ⟨Bk,0,none⟩ ∧ GoneAt W Bk 0 (putX 1 ⟨#[97]⟩ ⟨#[]⟩ 0 1 0 10) 1:=fun W L H h => gones_at H h gl (by rw [hG]; rfl)
 obtain ⟨Bk,rfl,_⟩:=ga w' _ K2.rest (fun t ht => List.mem_append_left _ (List.mem_append_left _ ht))
 refine ⟨Bk,c,_,_,rfl,K2,fun W L H h => ?_⟩
 obtain ⟨Bk2,e2,a⟩:=ga W L H fun t ht => h t (List.mem_append_left _ ht)
 cases e2
 have tg:=a.tag
 obtain ⟨_,_,_,_,_,_,_,_,_,_,bk,_⟩:=a.ent
 exact ⟨tg,bk⟩
theorem findD_c (K:StoreK 1 [1] V w R S sD1):Calls Tryz.prog 13 #[.pointer (some ⟨S,0,none⟩),.string ⟨#[97]⟩,.int .i64 7] w fun e w' => (∃ v,e = .returned v) ∧ StoreK 1 [1] V w' R S sD2 :=
 kfind_c (s:=sD1) K (by decide) ⟨#[97]⟩ (by decide +kernel) (by decide +kernel) (g:=(⟨putX 1 ⟨#[97]⟩ ⟨#[]⟩ 0 1 4 0,5,5⟩ : HeldM)) rfl (look1 [1] (⟨putX 1 ⟨#[97]⟩ ⟨#[]⟩ 0 1 4 0,5,5⟩ : HeldM)) 7
theorem gone_read {M R:List Thing} {Bk:Nat} (H:Own V w (M ++ R)) (g:GoneC V M Bk):w.cell? ⟨Bk,11,none⟩ = some (.int .i64 1) ∧ w.cell? ⟨Bk,5,none⟩ = some (.int .i64 1):=g _ _ H fun t ht => List.mem_append_left _ ht
theorem four_mk {R TA TB TC TD:List Thing} {A B C D:Nat} {sa sb sc sd:StM} (H:Own V w (TD ++ (TC ++ (TB ++ (TA ++ R))))) (h1:StoK 1 [1] TD D sd) (h2:StoK 4 [1,1] TC C sc) (h3:StoK 2 [1] TB B sb) (h4:StoK 1 [1] TA A sa):Four V w R D sd C sc B sb A sa:=⟨TD,TC,TB,TA,H,h1,h2,h3,h4⟩
end
set_option maxRecDepth 20000 in
theorem yawake_c (w:World):Calls Tryz.prog 7 #[] w fun e w' => e = .returned (.bool true) ∧ Wider w w':=by
 have H0:Own w w []:=Own.nil (Wider.refl w)
 refine by_post fun Q hQ => ?_
 have HQ:=Lib.hid hQ
 clear hQ
 go_enter Tryz.func7,Tryz.ntmps7
 go_wp2_with (first
  | (go_at_call 8; ((with_reducible refine (newA_c H0).mono ?_); rintro e w1 ⟨SA,TA,rfl,HA,qA⟩; clear H0))
  | (go_at_call 8; ((with_reducible refine (newB_c HA).mono ?_); rintro e w2 ⟨SB,TB,rfl,HB,qB⟩; clear HA))
  | (go_at_call 8; ((with_reducible refine (newC_c HB).mono ?_); rintro e w3 ⟨SC,TC,rfl,HC,qC⟩; clear HB))
  | (go_at_call 8; ((with_reducible refine (newA_c HC).mono ?_); rintro e w4 ⟨SD,TD,rfl,HD,qD⟩; clear HC; have F:=four_mk HD qD qC qB qA; clear HD qD qC qB qA; obtain ⟨R1,K1,b1⟩:=F.a; clear F))
  | (go_at_call 28; ((with_reducible refine (step1_c K1).mono ?_); rintro e w5 ⟨rfl,K⟩; have F:=b1 _ _ K; clear K1 b1 K; obtain ⟨R2,K2,b2⟩:=F.a; clear F))
  | (go_at_call 29; ((with_reducible refine (step2_c K2).mono ?_); rintro e w6 ⟨rfl,K⟩; have F:=b2 _ _ K; clear K2 b2 K; obtain ⟨R3,K3,b3⟩:=F.b; clear F))
  | (go_at_call 28; ((with_reducible refine (step3_c K3).mono ?_); rintro e w7 ⟨rfl,K⟩; have F:=b3 _ _ K; clear K3 b3 K; obtain ⟨R4,K4,b4⟩:=F.b; clear F))
  | (go_at_call 28; ((with_reducible refine (step4_c K4).mono ?_); rintro e w8 ⟨rfl,K⟩; have F:=b4 _ _ K; clear K4 b4 K; obtain ⟨R5,K5,b5⟩:=F.b; clear F))
  | (go_at_call 29; ((with_reducible refine (step5_c K5).mono ?_); rintro e w9 ⟨rfl,K⟩; have F:=b5 _ _ K; clear K5 b5 K; obtain ⟨R6,K6,b6⟩:=F.b; clear F))
  | (go_at_call 29; ((with_reducible refine (step6_c K6).mono ?_); rintro e w10 ⟨rfl,K⟩; have F:=b6 _ _ K; clear K6 b6 K; obtain ⟨R7,K7,b7⟩:=F.c; clear F))
  | (go_at_call 28; ((with_reducible refine (step7_c K7).mono ?_); rintro e w11 ⟨rfl,K⟩; have F:=b7 _ _ K; clear K7 b7 K; obtain ⟨R8,K8,b8⟩:=F.c; clear F))
  | (go_at_call 29; ((with_reducible refine (step8_c K8).mono ?_); rintro e w12 ⟨rfl,K⟩; have F:=b8 _ _ K; clear K8 b8 K; obtain ⟨R9,K9,b9⟩:=F.c; clear F))
  | (go_at_call 29; ((with_reducible refine (step9_c K9).mono ?_); rintro e w13 ⟨rfl,K⟩; have F:=b9 _ _ K; clear K9 b9 K; obtain ⟨R10,K10,b10⟩:=F.d; clear F))
  | (go_at_call 28; ((with_reducible refine (step10_c K10).mono ?_); rintro e w14 ⟨rfl,K⟩; have F:=b10 _ _ K; clear K10 b10 K; obtain ⟨R11,K11,b11⟩:=F.gone; clear F))
  | (go_at_call 15; ((with_reducible refine (dueA_c K11).mono ?_); rintro e w15 ⟨rfl,K⟩; clear K11; have KX:=K; clear K))
  | (go_at_call 17; ((with_reducible refine (exp14_c KX).mono ?_); rintro e w16 ⟨B1,c1,M1,rfl,K⟩; clear KX; have KY:=K; clear K))
  | (go_at_call 17; ((with_reducible refine (exp15_c KY).mono ?_); rintro e w17 ⟨Bk,c2,M2,s9,rfl,K,gc⟩; obtain ⟨R9,KD⟩:=b11 _ _ _ K; clear KY K b11))
  | (go_at_call 13; ((with_reducible refine (findD_c KD).mono ?_); rintro e w18 ⟨⟨v9,rfl⟩,K⟩; have KE:=K; clear KD K))
  | (go_at_call 15; ((with_reducible refine (dueD_c KE).mono ?_); rintro e w19 ⟨rfl,H9⟩; clear KE; obtain ⟨tg,bk⟩:=gone_read H9 gc; have W9:=H9.wider; clear H9 gc)))
 exact HQ.out _ _ ⟨rfl,W9⟩
theorem ztwin3_c {V w:World} {R:List Thing} {s:SetN} {L:List ItN} {N:Nat} (H:Own V w (s.things ++ R)) (h:SetL s L N) (hN:N < 99990) :
 Calls Tryz.prog 131 #[.agg #[.pointer (some ⟨s.A,0,none⟩)]] w fun e w' => ∃ t:SetN,e = .returned (.iface 110 (.agg #[.pointer (some ⟨t.A,0,none⟩)])) ∧ Own V w' (t.things ++ (s.things ++ R)) ∧ SetL t L N:=by
 have H1:=H.quiet ((Wider.refl w).alloc (.cells #[.pointer (some ⟨s.A,0,none⟩)] 110))
 have zp:=tcopy_c H1 h hN
 clear H h H1
 obtain ⟨Z,hZ⟩ : ∃ Z,s.A = Z:=⟨_,rfl⟩
 rw [hZ] at zp ⊢
 clear hZ
 go_enter Tryz.func131,Tryz.ntmps131
 go_wp2_with (first
  | (go_at_call 137; ((with_reducible refine zp.mono ?_); rintro e w1 ⟨t,rfl,H2,h2⟩; clear zp)))
 go_ret
 exact ⟨t,rfl,H2,h2⟩
theorem engA_twin {k:Int} {ws:List Nat} {ev:Value} {Es Xs:List Thing} {M:List KP} {N:Nat} (h:EngA k ws ev Es Xs M N) (hN:N < 99990) :
 (∃ (p:Addr),ev = .iface 102 (.agg #[.pointer (some p)]) ∧ ∀ (V W:World) (R2:List Thing),Own V W (Es ++ R2) → Calls Tryz.prog 82 #[.agg #[.pointer (some p)]] W fun e w2 => ∃ T v Es2 Es3,e = .returned (.iface T v) ∧ Own V w2 (Es2 ++ (Es3 ++ R2)) ∧ EngA k ws (.iface T v) Es2 Xs M N ∧ EngA k ws ev Es3 Xs M N) ∨
 (∃ (Z:Nat),ev = .iface 106 (.agg #[.pointer (some ⟨Z,0,none⟩)]) ∧ ∀ (V W:World) (R2:List Thing),Own V W (Es ++ R2) → Calls Tryz.prog 104 #[.agg #[.pointer (some ⟨Z,0,none⟩)]] W fun e w2 => ∃ T v Es2 Es3,e = .returned (.iface T v) ∧ Own V w2 (Es2 ++ (Es3 ++ R2)) ∧ EngA k ws (.iface T v) Es2 Xs M N ∧ EngA k ws ev Es3 Xs M N) ∨
 (∃ (Z:Nat),ev = .iface 110 (.agg #[.pointer (some ⟨Z,0,none⟩)]) ∧ ∀ (V W:World) (R2:List Thing),Own V W (Es ++ R2) → Calls Tryz.prog 131 #[.agg #[.pointer (some ⟨Z,0,none⟩)]] W fun e w2 => ∃ T v Es2 Es3,e = .returned (.iface T v) ∧ Own V w2 (Es2 ++ (Es3 ++ R2)) ∧ EngA k ws (.iface T v) Es2 Xs M N ∧ EngA k ws ev Es3 Xs M N) ∨
 (∃ (Z:Nat) (D:Option Addr) (nw cw:Nat),ev = .iface 115 (.agg #[.pointer (some ⟨Z,0,none⟩),.slice D nw cw]) ∧ ∀ (V W:World) (R2:List Thing),Own V W (Es ++ R2) → Calls Tryz.prog 185 #[.agg #[.pointer (some ⟨Z,0,none⟩),.slice D nw cw]] W fun e w2 => ∃ T v Es2 Es3,e = .returned (.iface T v) ∧ Own V w2 (Es2 ++ (Es3 ++ R2)) ∧ EngA k ws (.iface T v) Es2 Xs M N ∧ EngA k ws ev Es3 Xs M N):=by
 have h0:=h
 rcases h with ⟨rfl,p,L,F,rfl,rfl,h⟩ | ⟨rfl,Z,t,T,rfl,rfl,h⟩ | ⟨rfl,s,rfl,rfl,h⟩ | ⟨rfl,Z,wv,iv,D,cw,rfl,rfl,h,hm⟩
 · refine .inl ⟨p,rfl,fun V W R2 H => (ztwin1_c H h).mono ?_⟩
   rintro e w2 ⟨q,G,rfl,h2,H2⟩
   exact ⟨_,_,[mapT q L G],[mapT p L F],rfl,H2,.inl ⟨rfl,q,L,G,rfl,rfl,h2⟩,h0⟩
 · refine .inr (.inl ⟨Z,rfl,fun V W R2 H => (ztwin2_c H h).mono ?_⟩)
   rintro e w2 ⟨Y,T2,rfl,h2,H2⟩
   exact ⟨_,_,[treeT T2],[treeT T],rfl,H2,.inr (.inl ⟨rfl,Y,t,T2,rfl,rfl,h2⟩),h0⟩
 · refine .inr (.inr (.inl ⟨s.A,rfl,fun V W R2 H => (ztwin3_c H h hN).mono ?_⟩))
   rintro e w2 ⟨t,rfl,H2,h2⟩
   exact ⟨_,_,t.things,s.things,rfl,H2,.inr (.inr (.inl ⟨rfl,t,rfl,rfl,h2⟩)),h0⟩
 · refine .inr (.inr (.inr ⟨Z,D,ws.length,cw,rfl,fun V W R2 H => (ztwin4_c (M:=M) (N:=N) (ws:=ws) ⟨wv,iv,H,h⟩ hN).mono ?_⟩))
   rintro e w2 ⟨Y,rfl,wv3,iv3,⟨wv2,iv2,H2,g2⟩,g3⟩
   exact ⟨_,_,[setT Y wv2 iv2 ws,rowW wv2 ws,rowR iv2 (M.map toR)],[setT Z wv3 iv3 ws,rowW wv3 ws,rowR iv3 (M.map toR)],rfl,H2,.inr (.inr (.inr ⟨rfl,Y,wv2,iv2,D,cw,rfl,rfl,g2,hm⟩)),.inr (.inr (.inr ⟨rfl,Z,wv3,iv3,D,cw,rfl,rfl,g3,hm⟩))⟩
end Go.Proofs.YtbnpelciceblfaaGreat
