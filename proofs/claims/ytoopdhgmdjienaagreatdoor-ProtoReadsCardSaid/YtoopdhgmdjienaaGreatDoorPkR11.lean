/- ORec Quiet ORecG -/
import Derived.Test.YtoopdhgmdjienaaGreatDoorPkR10
import Derived.StillTailTactics
namespace Go.Proofs.YtoopdhgmdjienaaGreatDoor
set_option linter.unusedVariables false
set_option maxRecDepth 20000
open Go.ChangeShapes Go.WideShapes Go.ChangeAt Go.RowKit Go.Joins
open Go.ChangeMaps (open_string shut_string)
set_option maxHeartbeats 64000000
abbrev pv (x:FnP):Value:=.func (.func x.pf) #[] x.pc
abbrev gv (x:FnP):Value:=.func (.func x.gf) #[] x.gc
def cellsP (ps:List FnP):List Value:=ps.flatMap fun x => [pv x,gv x]
theorem cellsP_at:∀ (ps:List FnP) (k:Nat) (x:FnP),ps[k]? = some x → (cellsP ps)[k * 2]? = some (pv x) ∧ (cellsP ps)[k * 2 + 1]? = some (gv x)
 | [],k,x,h => by simp at h
 | p :: ps,0,x,h => by
   simp at h; subst h
   exact ⟨rfl,rfl⟩
 | p :: ps,k + 1,x,h => by
   have q:=cellsP_at ps k x (by simpa using h)
   have e:(k + 1) * 2 = k * 2 + 1 + 1:=by omega
   rw [e]
   exact q
def RecAt (b0:Nat) (W:World) (x:FnP) (ps:List FnP):Prop :=
 ∃ K P n t,x = ⟨181,#[.pointer (some ⟨K,0,none⟩)],182,#[.pointer (some ⟨K,0,none⟩)]⟩ ∧ b0 ≤ K ∧ b0 ≤ P ∧
   W.heap[K]? = some (.cells #[.slice (some ⟨P,0,none⟩) n n] 247 (0,0)) ∧ W.heap[P]? = some (.cells (cellsP ps).toArray t (0,0)) ∧ ps.length = n
theorem RecAt.on {b0 b1:Nat} {W w:World} {x:FnP} {ps:List FnP} (h:RecAt b1 W x ps) (g:Keeps b1 W w) (hb:b0 ≤ b1):RecAt b0 w x ps:=by
 obtain ⟨K,P,n,t,e,h1,h2,h3,h4,h5⟩:=h
 exact ⟨K,P,n,t,e,by omega,by omega,keep_blk h3 g h1,keep_blk h4 g h2,h5⟩
theorem record_c (w:World) {b0 P n:Nat} {t:TypeId} {ps:List FnP} (hP:w.heap[P]? = some (.cells (cellsP ps).toArray t (0,0))) (hn:ps.length = n) (hb:b0 ≤ P) :
 Calls Tryz.prog 161 #[.slice (some ⟨P,0,none⟩) n n] w fun e w' => ∃ x:FnP,e = .returned (.agg #[.func (.func x.pf) #[] x.pc,.func (.func x.gf) #[] x.gc]) ∧ Wider w w' ∧ RecAt b0 w' x ps:=by
 have hmf:=mk_func
 have H:=((Own.nil (Wider.refl w)).blk #[.slice (some ⟨P,0,none⟩) n n] 247).blk #[.func (.func 181) #[] #[.pointer (some ⟨w.heap.size,0,none⟩)],.func (.func 182) #[] #[.pointer (some ⟨w.heap.size,0,none⟩)]] 200
 have hl:P < w.heap.size:=(Array.getElem?_eq_some_iff.1 hP).1
 have HP:=Lib.hid hP
 clear hP
 go_enter Tryz.func161,Tryz.ntmps161
 go_wp2
 simp [bodyPost,results,Tryz.results161,go_sem]
 exact ⟨⟨_,_,_,_⟩,⟨⟨rfl,rfl⟩,rfl,rfl⟩,H.wider,_,_,_,_,rfl,by omega,hb,H.drop.head,wide_blk HP.out H.wider,hn⟩
theorem Own.bare {V w:World} {L:List Thing} (H:Own V w L) (e:TypeId) (size:Nat):Own V w (rowT e size (.slice none 0 0) 0 [] :: L) :=
 H.make (Wider.refl w) (World.ownsRow_nil _ _ _ _) (rowT_stable _ _ _ _ _) (fun i hi => by simp [Value.ownBlock] at hi)
section
variable {β:Type}
theorem attrsG_snoc:∀ (cs:List (Cod β)) (xs:List β) (j:Nat) (c:Cod β) (x:β),cs.length = xs.length → attrsG j (cs ++ [c]) (xs ++ [x]) = addT (attrsG j cs xs) (j + cs.length) (c.enc x)
 | [],[],j,c,x,_ => by
   simp only [List.nil_append,attrsG,addT,List.length_nil,Nat.add_zero]
 | [],_ :: _,_,_,_,h => by simp at h
 | _ :: _,[],_,_,_,h => by simp at h
 | d :: cs,y :: xs,j,c,x,h => by
   have ih:=attrsG_snoc cs xs (j + 1) c x (by simpa using h)
   have e:j + 1 + cs.length = j + (cs.length + 1):=by omega
   rw [e] at ih
   simp only [List.cons_append,attrsG,List.length_cons]
   rw [ih]
   unfold addT
   split <;> split <;> simp [*]
theorem attrsG_next {cs:List (Cod β)} {xs:List β} {k:Nat} {c:Cod β} {x:β} (hl:xs.length = cs.length) (hc:cs[k]? = some c) (hx:xs[k]? = some x):attrsG 1 (cs.take (k + 1)) (xs.take (k + 1)) = addT (attrsG 1 (cs.take k) (xs.take k)) (k + 1) (c.enc x):=by
 have h1:=(List.getElem?_eq_some_iff.1 hc).1
 rw [take_next cs k c hc,take_next xs k x hx,attrsG_snoc _ _ _ _ _ (by simp; omega)]
 have e:1 + (cs.take k).length = k + 1:=by simp; omega
 rw [e]
theorem okG_of:∀ (cs:List (Cod β)) (xs:List β),xs.length = cs.length → (∀ (k:Nat) c x,cs[k]? = some c → xs[k]? = some x → c.ok x) → okG cs xs
 | [],[],_,_ => trivial
 | [],_ :: _,h,_ => by simp at h
 | _ :: _,[],h,_ => by simp at h
 | c :: cs,x :: xs,h,k => ⟨k 0 c x rfl rfl,okG_of cs xs (by simpa using h) fun i d y hd hy => k (i + 1) d y (by simpa using hd) (by simpa using hy)⟩
end
theorem recput_c {β:Type} {w:World} {b0:Nat} {x:FnP} {ps:List FnP} (hR:RecAt b0 w x ps) {cs:List (Cod β)} {xs:List β} (hlp:ps.length = cs.length) (hlx:xs.length = cs.length)
 (hp:∀ (k:Nat) p c y,ps[k]? = some p → cs[k]? = some c → xs[k]? = some y → ∀ T r,PutR c y T r → Puts w p T r) (hn9:cs.length < 255) (hcap:∀ c ∈ cs,c.cap ≤ 65535) (hsum:(cs.map fun c => 3 + c.cap).sum < 1000000)
 {T:ByteArray} {r:Nat} (hr:PutG cs xs T r):Puts w x T r:=by
 refine ⟨by obtain ⟨K,P,n,t,rfl,_⟩:=hR; exact enters_of Tryz.func181 (by kernel_rfl) rfl,?_⟩
 intro w2 g2
 obtain ⟨K,P,n,t,rfl,hK,hP,hk,hps,hn⟩:=hR
 show Calls Tryz.prog 181 #[.pointer (some ⟨K,0,none⟩)] w2 _
 have HPP:Hid (∀ (k:Nat) p c y,ps[k]? = some p → cs[k]? = some c → xs[k]? = some y → ∀ T r,PutR c y T r → Puts w2 p T r):=fun k p c y h1 h2 h3 T r h4 => (hp k p c y h1 h2 h3 T r h4).on g2
 have hk2:=wide_blk hk g2
 have HPS:=Lib.hid (wide_blk hps g2)
 have HLP:Hid (ps.length = n):=hn
 have HLC:Hid (cs.length = n):=by show _ = _; omega
 have HLX:Hid (xs.length = n):=by show _ = _; omega
 have hn5:n < 255:=by omega
 have HS:=Lib.hid hsum
 have HC:=Lib.hid hcap
 have HR:=Lib.hid hr
 have c1:=blk_cell hk2 0 (v:=.slice (some ⟨P,0,none⟩) n n) rfl
 have H0:=(Own.nil (Wider.refl w2)).bare 89 2
 obtain ⟨i0,hi,hz0,hz1,hz2⟩:=info_parts infoTlv
 clear hp hlp hlx hn9 hcap hsum hr hk hps hn hk2 g2
 go_enter Tryz.func181,Tryz.ntmps181
 go_wp2
 go_loopw [3,10] (fun l i wr => ∃ k:Nat,k ≤ n ∧ i = .int .i64 (k:Int) ∧ ∃ A m c L,l = .slice A m c ∧ Own w2 wr [rowT 89 2 (.slice A m c) m (cellsA L)] ∧ Hid (L.length = m) ∧ Hid (m ≤ k) ∧ Hid (L = attrsG 1 (cs.take k) (xs.take k)) ∧ Hid (okG (cs.take k) (xs.take k))) (fun _ i _ => n - (intOf i).toNat)
 case atStart => exact ⟨0,by omega,by simp,none,0,0,[],rfl,H0,rfl,Nat.le_refl _,by simp [Hid,attrsG],by simp [Hid,okG]⟩
 case round =>
  obtain ⟨k,hk,rfl,A,m,c,L,rfl,H,HL,HM,HA,HO⟩:=hrel
  clear H0
  by_cases ck:k < n
  · obtain ⟨p,hp⟩:=next_some ps k (by rw [HLP.out]; exact ck)
    obtain ⟨c0,hc⟩:=next_some cs k (by rw [HLC.out]; exact ck)
    obtain ⟨y,hy⟩:=next_some xs k (by rw [HLX.out]; exact ck)
    obtain ⟨p0,p1⟩:=cellsP_at ps k p hp
    have hPS:=wide_blk HPS.out H.wider
    have q0:=blk_cell hPS (k * 2) (v:=pv p) (by simpa using p0)
    have q1:=blk_cell hPS (k * 2 + 1) (v:=gv p) (by simpa using p1)
    have j0:(0:Int) ≤ (k:Int):=by omega
    have j1:(k:Int) < (n:Int):=by omega
    have cK:=wkeep H.wider c1
    by_cases ok:c0.ok y
    · obtain ⟨S,hS⟩ : ∃ S,c0.enc y = S:=⟨_,rfl⟩
      have hq:=(HPP.out k p c0 y hp hc hy S 0 (.inl ⟨ok,hS.symm,rfl⟩)).on H.wider
      have hA2:Hid (attrsG 1 (cs.take (k + 1)) (xs.take (k + 1)) = addT L (k + 1) S):=by
       show _ = _
       rw [attrsG_next (by rw [HLX.out,HLC.out]) hc hy,← HA.out,hS]
      have hO2:Hid (okG (cs.take (k + 1)) (xs.take (k + 1))):=by
       refine okG_of _ _ (by have:=HLX.out; have:=HLC.out; simp; omega) fun i d z hd hz => ?_
       rw [List.getElem?_take] at hd hz
       split at hd
       · rename_i hi
         rw [if_pos hi] at hz
         by_cases e:i = k
         · subst e
           rw [hc] at hd; rw [hy] at hz
           injection hd with hd; injection hz with hz
           subst hd hz; exact ok
         · exact okG_at _ _ i d z HO.out (by rw [List.getElem?_take,if_pos (by omega)]; exact hd) (by rw [List.getElem?_take,if_pos (by omega)]; exact hz)
       · cases hd
      have ent:∀ (args:Array Value) (w:World),(callFunc p.pf args).run Tryz.prog w = .ok (.enter p.pf args) w:=hq.1
      have hq2:=hq.2
      clear hq
      clear hp hc hy p0 p1 hPS ok hS HO HA
      by_cases z:S.size = 0
      · obtain rfl:=empty_of S z
        have hA3:Hid (L = attrsG 1 (cs.take (k + 1)) (xs.take (k + 1))):=by
         show _ = _
         rw [hA2.out]; unfold addT; rw [if_pos z]
        clear hA2 z
        go_wp2_with (go_at_fn p.pf; ((with_reducible refine (hq2 _ ((Wider.refl wr).alloc _)).mono ?_); rintro e w3 ⟨rfl,g3⟩))
        have H3:=H.quiet (((Wider.refl wr).alloc _).trans g3)
        go_roundw
        case rel => exact ⟨k + 1,by omega,by go_num,A,m,c,L,rfl,H3,HL,by show _ ≤ _; have:=HM.out; omega,hA3,hO2⟩
        case measure => simp [intOf]; omega
      · obtain ⟨s1,s2⟩:=ne_empty S z
        have hA3:Hid (L ++ [⟨k + 1,S⟩] = attrsG 1 (cs.take (k + 1)) (xs.take (k + 1))):=by
         show _ = _
         rw [hA2.out]; unfold addT; rw [if_neg z]
        have hm:=HM.out
        have S3:Hid (m + 1 ≤ maxLen):=by show _ ≤ maxLen; unfold maxLen; omega
        have S4:Hid ((m + 1) * 24 ≤ 140737488355328):=by show _ ≤ _; omega
        have SN:Hid (cellsA L ++ [.int .u8 ((k:Int) + 1),.string S] = cellsA (L ++ [⟨k + 1,S⟩])):=by show _ = _; rw [cellsA_snoc]; simp
        have w8:IntKind.u8.wrap ((k:Int) + 1) = (k:Int) + 1:=by simp [IntKind.wrap,IntKind.bits,IntKind.signed]; omega
        clear hA2 z hm
        go_wp2_with (first
         | (go_at_fn p.pf; ((with_reducible refine (hq2 _ ((Wider.refl wr).alloc _)).mono ?_); rintro e w3 ⟨rfl,g3⟩; have H3:=(H.quiet (((Wider.refl wr).alloc _).trans g3)).quiet ((Wider.refl w3).alloc (.cells #[.int .u8 ((k:Int) + 1),.string S] 89)); have SIDE:=lies2 w3 (.int .u8 ((k:Int) + 1)) (.string S) 89 rfl rfl; have H4:=Lib.hid H3; have SD:=Lib.hid SIDE; clear H3 SIDE))
         | (at_builtin; refine wpList_append_thing rfl (.tmp 26) (.tmp 32) 82 rfl 89 i0 (.agg #[.int .u8 0,.string ⟨#[]⟩]) 2 24 Tryz.underlying82 hi hz0 hz1 hz2 rfl (by decide) (.slice A m c) m (cellsA L) rfl H4.out (some ⟨w3.heap.size,0,none⟩) 1 1 [.int .u8 ((k:Int) + 1),.string S] rfl rfl (fun e => by cases e) (fun a e => by cases e; exact SD.out.1) SD.out.2 S3.out S4.out rfl SN.out ?_; intro B2 c2 w5 H5))
        go_roundw
        case rel => exact ⟨k + 1,by omega,by go_num,B2,m + 1,c2,L ++ [⟨k + 1,S⟩],rfl,H5,by show _ = _; rw [List.length_append,HL.out]; rfl,by show _ ≤ _; have:=HM.out; omega,hA3,hO2⟩
        case measure => simp [intOf]; omega
    · have hno:¬ okG cs xs:=fun q => ok (okG_at cs xs k c0 y q hc hy)
      rcases HR.out with ⟨q,_,_⟩ | ⟨_,rfl,rfl⟩
      · exact absurd q hno
      · have hq:=(HPP.out k p c0 y hp hc hy ⟨#[]⟩ 3 (.inr ⟨ok,rfl,rfl⟩)).on H.wider
        have ent:∀ (args:Array Value) (w:World),(callFunc p.pf args).run Tryz.prog w = .ok (.enter p.pf args) w:=hq.1
        have hq2:=hq.2
        clear hq
        clear hp hc hy p0 p1 hPS ok HO HA hno
        go_wp2_with (go_at_fn p.pf; ((with_reducible refine (hq2 _ ((Wider.refl wr).alloc _)).mono ?_); rintro e w3 ⟨rfl,g3⟩))
        have H3:=H.quiet (((Wider.refl wr).alloc _).trans g3)
        go_ret2
        exact ⟨rfl,H3.wider⟩
  · obtain rfl:k = n:=by omega
    have hO:=HO.out
    rw [List.take_of_length_le (by rw [HLC.out]; exact Nat.le_refl _),List.take_of_length_le (by rw [HLX.out]; exact Nat.le_refl _)] at hO
    have hA:=HA.out
    rw [List.take_of_length_le (by rw [HLC.out]; exact Nat.le_refl _),List.take_of_length_le (by rw [HLX.out]; exact Nat.le_refl _)] at hA
    rcases HR.out with ⟨_,hT,rfl⟩ | ⟨q,_,_⟩
    · obtain ⟨A',c',ev,ha,_⟩:=atsAt_own H.head
      injection ev with e1 e2 e3
      subst e1
      have hb:(bytsA L).length < 1000000:=by rw [hA]; exact Nat.lt_of_le_of_lt (attrsG_size cs xs 1 hO) HS.out
      have zt:=tenc_a A m c L wr ha HL.out (by have:=HM.out; omega) (fun x hx => by rw [hA] at hx; have:=attrsG_t cs xs 1 x hx; rw [HLC.out] at this; omega) hb (fun x hx => by
       obtain ⟨j,hj⟩:=List.getElem?_of_mem hx
       have:=bytsA_one L j x hj; omega) (T:=T) (r:=0) (by rw [hT,hA]; rfl) (by rw [hA]; exact okA_attrsG cs xs 1 0 hO HC.out (by omega))
      clear ha hb hT hA hO e2 e3 HO HA HR
      go_wp2_with (go_at_call 36; ((with_reducible refine zt.mono ?_); rintro e w3 ⟨rfl,g3⟩))
      go_ret2
      exact ⟨rfl,H.wider.trans g3⟩
    · exact absurd hO q
end Go.Proofs.YtoopdhgmdjienaaGreatDoor
namespace Go.Proofs.YtoopdhgmdjienaaGreatDoor
set_option linter.unusedVariables false
open Go.RowKit
set_option maxHeartbeats 64000000
structure After (V:World) where
 w:World
 h:Wider V w
instance (V:World):Nonempty (After V):=⟨⟨V,Wider.refl V⟩⟩
theorem wp_region_after {P:Program} {V:World} {id:Nat} {Q:Exit → Act → World → Prop} {a:Act} {w:World} {l:List Oper} (hm:P.follows .mixedOrders = true) (hB:Region.lexB .any l.toArray = true) (g:Wider V w)
 (h:wpQuiet P l.toArray (fun w' => ∃ x:After V,w' = x.w) (fun a' => ∀ w',(∃ x:After V,w' = x.w) → Q .normal a' w') l a):(Code.region id l.toArray true).wp P Q a w :=
 wp_region_quiet (C:=fun w' => ∃ x:After V,w' = x.w) hm hB ⟨⟨w.drew,g.drew⟩,rfl⟩ (by simpa using h)
theorem quiet_after {P:Program} {V:World} {f:FuncId} {args:Array Value} {x:After V} {v:Value} (h:Calls P f args x.w fun e w' => e = .returned v ∧ Wider x.w w') :
 Calls P f args x.w fun e w' => e = .returned v ∧ ∃ y:After V,w' = y.w :=
 h.mono fun _ w' k => ⟨k.1,⟨w',x.h.trans k.2⟩,rfl⟩
end Go.Proofs.YtoopdhgmdjienaaGreatDoor
namespace Go.Proofs.YtoopdhgmdjienaaGreatDoor
set_option linter.unusedVariables false
set_option maxRecDepth 20000
open Go.ChangeShapes Go.WideShapes Go.ChangeAt Go.RowKit Go.Joins
open Go.ChangeMaps (open_string shut_string)
set_option maxHeartbeats 64000000
theorem tdec_o (s:ByteArray) (w:World) (hs:s.size < 1000000) {m:List AtN} {c n:Nat} (hd:decA [] 0 s.data.toList = (m,c)) (hn:m.length = n) :
 Calls Tryz.prog 38 #[.string s] w fun e w' => ∃ A cp,e = .returned (.tuple #[.slice A n cp,.int .i64 (c:Int)]) ∧ Wider w w' ∧ w'.ownsRow w.heap.size 89 2 (.slice A n cp) n (cellsA m) :=
 (tdec_a s w hs hd).mono fun e w' ⟨v,he,g,h⟩ => by
  obtain ⟨A,cp,rfl,_,_⟩:=atsAt_own h
  rw [hn] at he h
  exact ⟨A,cp,he,g,h⟩
section
variable {β:Type}
def StateG (B:Nat) (w:World) (C:Array Value) (os:List Nat) (Rs:List (Rel β)) (vs:List β):Prop :=
 ∀ (k:Nat) o R x,os[k]? = some o → Rs[k]? = some R → vs[k]? = some x → ∃ u,C[o]? = some u ∧ R B w u x
theorem StateG.on {B:Nat} {W w:World} {C:Array Value} {os:List Nat} {Rs:List (Rel β)} {vs:List β} (h:StateG B W C os Rs vs) (hS:∀ R ∈ Rs,RelS R) (g:WBut [B] W w):StateG B w C os Rs vs:=by
 intro k o R x h1 h2 h3
 obtain ⟨u,hu,hr⟩:=h k o R x h1 h2 h3
 exact ⟨u,hu,hS R (List.mem_of_getElem? h2) B W w u x g hr⟩
theorem StateG.set {B:Nat} {w:World} {C:Array Value} {os:List Nat} {Rs:List (Rel β)} {vs:List β} (h:StateG B w C os Rs vs) (hnd:os.Nodup) {i o:Nat} {R:Rel β} {x:β} {u:Value} (ho:os[i]? = some o) (hR:Rs[i]? = some R) (hC:o < C.size) (hu:R B w u x) :
 StateG B w (C.setIfInBounds o u) os Rs (vs.set i x):=by
 intro k o2 R2 x2 h1 h2 h3
 by_cases e:k = i
 · subst e
   rw [ho] at h1; rw [hR] at h2
   injection h1 with h1; injection h2 with h2
   subst h1 h2
   rw [List.getElem?_set] at h3
   split at h3
   · split at h3
     · injection h3 with h3
       subst h3
       exact ⟨u,by simp [hC],hu⟩
     · cases h3
   · rename_i q; exact absurd rfl q
 · have hne:o ≠ o2:=by
    intro q
    subst q
    exact e ((List.getElem?_inj (List.getElem?_eq_some_iff.1 h1).1 hnd).1 (h1.trans ho.symm))
   rw [List.getElem?_set_ne (Ne.symm e)] at h3
   obtain ⟨v,hv,hr⟩:=h k o2 R2 x2 h1 h2 h3
   exact ⟨v,by rw [Array.getElem?_setIfInBounds_ne hne]; exact hv,hr⟩
theorem okA_pos {l:List AtN} (h:okA 0 l = 0) {j:Nat} {x:AtN} (hx:l[j]? = some x):0 < x.t:=by
 have key:∀ (l:List AtN) (q:Nat),okA q l = 0 → ∀ x ∈ l,q < x.t:=by
  intro l
  induction l with
  | nil => intro q _ x hx; cases hx
  | cons a l ih =>
    intro q h x hx
    have h2:(if a.t ≤ q ∨ a.v.size = 0 then 3 else if 65535 < a.v.size then 5 else okA a.t l) = 0:=h
    split at h2
    · cases h2
    · rename_i c
      split at h2
      · cases h2
      · rcases List.mem_cons.1 hx with rfl | hx
        · rcases Nat.lt_or_ge q x.t with d | d
          · exact d
          · exact absurd (.inl d) c
        · have:=ih a.t h2 x hx
          rcases Nat.lt_or_ge q a.t with d | d
          · omega
          · exact absurd (.inl d) c
 exact key l 0 h x (List.mem_of_getElem? hx)
theorem okA_small {s:ByteArray} {m:List AtN} (h:decA [] 0 s.data.toList = (m,0)) {j:Nat} {t:Nat} {q:ByteArray} (hx:m[j]? = some ⟨t,q⟩):t < 256:=by
 obtain ⟨l,e1,_,_,e4⟩:=decA_inv _ s.data.toList rfl [] 0 m h
 rw [List.nil_append] at e1
 subst e1
 exact e4 _ (List.mem_of_getElem? hx)
theorem codeAt_some {cs:List (Cod β)} {i:Nat} {c:Cod β} (h:cs[i]? = some c):codeAt cs (i + 1) = some c:=by
 unfold codeAt
 rw [if_neg (by omega)]
 exact h
end
theorem recget_c {β:Type} {W:World} {b0 B:Nat} {x:FnP} {ps:List FnP} (hR:RecAt b0 W x ps) {cs:List (Cod β)} {os:List Nat} {Rs:List (Rel β)} (hlp:ps.length = cs.length) (hlo:os.length = cs.length) (hlr:Rs.length = cs.length) (hnd:os.Nodup) (hS:∀ R ∈ Rs,RelS R) (hn9:cs.length < 255)
 (hp:∀ (k:Nat) p c o R,ps[k]? = some p → cs[k]? = some c → os[k]? = some o → Rs[k]? = some R → Gets b0 W p ⟨B,o,none⟩ c R) (hb:B < b0) :
 Enters Tryz.prog x.gf ∧ ∀ w C t,Keeps b0 W w → w.heap[B]? = some (.cells C t (0,0)) → (∀ o ∈ os,o < C.size) → StateG B w C os Rs (zeroG cs) → ∀ s:ByteArray,s.size < 1000000 → ∀ vs r,decG cs s.data.toList = (vs,r) →
  Calls Tryz.prog x.gf (#[.string s] ++ x.gc) w fun e w' => e = .returned (.int .i64 (r:Int)) ∧ WBut [B] w w' ∧ (r = 0 → ∃ C',w'.heap[B]? = some (.cells C' t (0,0)) ∧ C'.size = C.size ∧ (∀ i,i ∉ os → C'[i]? = C[i]?) ∧ StateG B w' C' os Rs vs):=by
 obtain ⟨K,P,n,t0,rfl,hK,hP,hk,hps,hn⟩:=hR
 refine ⟨enters_of Tryz.func182 (by kernel_rfl) rfl,?_⟩
 intro w C t g hC hos hst s hs vs r hr
 show Calls Tryz.prog 182 #[.string s,.pointer (some ⟨K,0,none⟩)] w _
 obtain ⟨m,c,hd⟩ : ∃ m c,decA [] 0 s.data.toList = (m,c):=⟨_,_,rfl⟩
 obtain ⟨nm,hnm⟩ : ∃ nm,m.length = nm:=⟨_,rfl⟩
 have hl:=decA_few hd
 have zd:=fun W:World => tdec_o s W hs hd hnm
 have hBl:B < w.heap.size:=(Array.getElem?_eq_some_iff.1 hC).1
 by_cases c0:c = 0
 · subst c0
   have HK0:Hid (∀ w',WBut [B] w w' → w'.cell? ⟨K,0,none⟩ = some (.slice (some ⟨P,0,none⟩) n n)):=fun w' g' => blk_cell (keep_blk hk (g.trans (g'.keeps hb)) hK) 0 rfl
   have HP0:Hid (∀ w',WBut [B] w w' → w'.heap[P]? = some (.cells (cellsP ps).toArray t0 (0,0))):=fun w' g' => keep_blk hps (g.trans (g'.keeps hb)) hP
   have HG:Hid (∀ (k:Nat) p c o R,ps[k]? = some p → cs[k]? = some c → os[k]? = some o → Rs[k]? = some R → ∀ w',WBut [B] w w' → Gets b0 w' p ⟨B,o,none⟩ c R):=fun k p c o R h1 h2 h3 h4 w' g' => (hp k p c o R h1 h2 h3 h4).on (g.trans (g'.keeps hb)) (Nat.le_refl _)
   have HLP:Hid (ps.length = n):=hn
   have HLC:Hid (cs.length = n):=by show _ = _; omega
   have HLO:Hid (os.length = n):=by show _ = _; omega
   have HLR:Hid (Rs.length = n):=by show _ = _; omega
   have hn5:n < 255:=by omega
   have HD:=Lib.hid hd
   have HN:=Lib.hid hnm
   have HR:=Lib.hid hr
   have HO:=Lib.hid hos
   have HC:=Lib.hid hC
   have HSt:=Lib.hid hst
   have HND:=Lib.hid hnd
   have HS:=Lib.hid hS
   rw [hnm] at hl
   clear hp hn hd hnm hr hos hst hnd hS hC hk hps g hlp hlo hlr hn9
   go_enter Tryz.func182,Tryz.ntmps182
   go_wp2_with (go_at_call 38; ((with_reducible refine (zd _).mono ?_); rintro e w2 ⟨A,cp,rfl,g2,h2⟩; have HO1:=Lib.hid h2; have HG2:=Lib.hid g2; clear h2 g2))
   clear zd
   go_loopw [18] (fun i wr => ∃ j:Nat,j ≤ nm ∧ i = .int .i64 (j:Int) ∧ Hid (WBut [B] w wr) ∧ Hid (wr.ownsRow (B + 1) 89 2 (.slice A nm cp) nm (cellsA m)) ∧ ∃ C' us,Hid (wr.heap[B]? = some (.cells C' t (0,0)) ∧ C'.size = C.size ∧ (∀ i,i ∉ os → C'[i]? = C[i]?) ∧ StateG B wr C' os Rs us ∧ readG cs (zeroG cs) (m.take j) = some us)) (fun i _ => nm - (intOf i).toNat)
   case atStart => exact ⟨0,by omega,by simp,HG2.out.but _,ownsRow_less HO1.out (by omega),C,zeroG cs,wide_blk HC.out HG2.out,rfl,fun _ _ => rfl,HSt.out.on HS.out (HG2.out.but _),rfl⟩
   case round =>
    obtain ⟨j,hj,rfl,HW,HO2,C',us,HU⟩:=hrel
    by_cases cj:j < nm
    · have j0:(0:Int) ≤ (j:Int):=by omega
      have j1:(j:Int) < (nm:Int):=by omega
      obtain ⟨y,hy⟩:=next_some m j (by rw [HN.out]; exact cj)
      obtain ⟨A',cp',ea,ha,_⟩:=atsAt_own HO2.out
      injection ea with ea1 ea2 ea3
      subst ea1 ea3
      cases A with
      | none => exact absurd (ha.none_ rfl) (by intro e; rw [e] at hy; simp at hy)
      | some a =>
        have hA:=ha.cell a rfl j y hy
        have hpos:=okA_pos (decA_okA HD.out) hy
        have sz:y.v.size < 1000000:=attr_small HD.out hs hy
        have HY:=Lib.hid hy
        clear hy ha
        obtain ⟨ty,q⟩:=y
        have ⟨k0,k1⟩:=hA
        have k2:=hA.flat
        simp only at k0 k1 k2 sz hpos
        clear hA
        obtain ⟨i,rfl⟩ : ∃ i,ty = i + 1:=⟨ty - 1,by omega⟩
        have cK:=HK0.out wr HW.out
        have ht:i < 255 ∨ 255 ≤ i:=by omega
        have hty:i + 1 < 256:=okA_small HD.out HY.out
        have w1:IntKind.u8.wrap (i:Int) = (i:Int):=by simp [IntKind.wrap,IntKind.bits,IntKind.signed]; omega
        have w64:IntKind.i64.wrap ((i:Int) + 1) = (i:Int) + 1:=by simp [IntKind.wrap,IntKind.bits,IntKind.signed]; omega
        have HNO:stepG cs us ⟨i + 1,q⟩ = none → r = 3:=fun e => by
         have k:=HR.out
         rw [decG_none HD.out (readG_stuck HU.out.2.2.2.2 HY.out e)] at k
         injection k with _ k
         exact k.symm
        have HYES:Hid (readG cs (zeroG cs) (m.take (j + 1)) = stepG cs us ⟨i + 1,q⟩):=readG_next HU.out.2.2.2.2 HY.out
        have n2:=new2 wr (.int .u8 ((i:Int) + 1)) (.string q) 89
        by_cases ci:i < n
        · have d1:decide ((n:Int) < (i:Int) + 1) = false:=decide_eq_false (by omega)
          have i0:(0:Int) ≤ (i:Int):=by omega
          have i1:(i:Int) < (n:Int):=by omega
          obtain ⟨p,hp⟩:=next_some ps i (by rw [HLP.out]; exact ci)
          obtain ⟨c0,hc⟩:=next_some cs i (by rw [HLC.out]; exact ci)
          obtain ⟨o,ho⟩:=next_some os i (by rw [HLO.out]; exact ci)
          obtain ⟨R,hR⟩:=next_some Rs i (by rw [HLR.out]; exact ci)
          obtain ⟨p0,p1⟩:=cellsP_at ps i p hp
          have q1:=blk_cell (HP0.out wr HW.out) (i * 2 + 1) (v:=gv p) (by simpa using p1)
          have hG:=HG.out i p c0 o R hp hc ho hR wr HW.out
          have ent:∀ (args:Array Value) (w:World),(callFunc p.gf args).run Tryz.prog w = .ok (.enter p.gf args) w:=hG.1
          have HOI:Hid (o ∈ os):=List.mem_of_getElem? ho
          have HIX:Hid (cs[i]? = some c0 ∧ os[i]? = some o ∧ Rs[i]? = some R):=⟨hc,ho,hR⟩
          clear hp hc ho hR p0 p1 HG HO1
          have HU1:=HU.out.1
          have hoC:o < C'.size:=by rw [HU.out.2.1]; exact HO.out o HOI.out
          cases hdec:c0.dec q with
          | some z =>
            have hst:stepG cs us ⟨i + 1,q⟩ = some (us.set i z):=step_at (codeAt_some HIX.out.1) hdec
            go_upto_region 7 with (fail)
            have G4:=(Wider.refl wr).alloc (.cells #[.int .u8 ((i:Int) + 1),.string q] 89)
            obtain ⟨w4,hw4⟩ : ∃ w4,wr.alloc (.cells #[.int .u8 ((i:Int) + 1),.string q] 89) = w4:=⟨_,rfl⟩
            rw [hw4] at n2 G4 ⊢
            have hcall:=(hG.2 B o rfl hb w4.drew C' t (G4.keeps b0) (wide_blk HU1 G4) hoC q sz).1 z hdec
            have cK4:=wkeep G4 cK
            have q14:=wkeep G4 q1
            have ⟨n20,n21,_,_⟩:=n2
            have G4H:=Lib.hid G4
            clear n2 hw4 cK q1 hG G4 HNO hdec HU1
            go_still_tail 16,(by kernel_rfl)
            change wpList _ _ _ _ _ w4.drew
            go_wp2_with (first
             | (go_at_fn p.gf; ((with_reducible refine hcall.mono ?_); rintro e w5 ⟨rfl,g5,u,hu,h5⟩)))
            have g45:WBut [B] wr w5:=wider_but (G4H.out.drew) g5
            go_roundw
            case rel =>
             refine ⟨j + 1,by omega,by go_num,HW.out.trans g45 (fun i m => .inl m),?_,C'.setIfInBounds o u,us.set i z,h5,by simp [HU.out.2.1],fun k hk => ?_,?_,by rw [HYES.out,hst]⟩
             · exact ownsRow_heap HO2.out fun k hk => g45.heap k (HO2.out.lt k (by simpa using hk)).2 (by have:=(HO2.out.lt k (by simpa using hk)).1; simp; omega)
             · rw [Array.getElem?_setIfInBounds_ne (fun e => hk (by rw [← e]; exact HOI.out))]
               exact HU.out.2.2.1 k hk
             · exact (HU.out.2.2.2.1.on HS.out g45).set HND.out HIX.out.2.1 HIX.out.2.2 hoC hu
            case measure => simp [intOf]; omega
          | none =>
            have hr3:=HNO (step_bad (codeAt_some HIX.out.1) hdec)
            subst hr3
            go_upto_region 7 with (fail)
            have G4:=(Wider.refl wr).alloc (.cells #[.int .u8 ((i:Int) + 1),.string q] 89)
            obtain ⟨w4,hw4⟩ : ∃ w4,wr.alloc (.cells #[.int .u8 ((i:Int) + 1),.string q] 89) = w4:=⟨_,rfl⟩
            rw [hw4] at n2 G4 ⊢
            have hcall:=(hG.2 B o rfl hb w4.drew C' t (G4.keeps b0) (wide_blk HU1 G4) hoC q sz).2 hdec
            have cK4:=wkeep G4 cK
            have q14:=wkeep G4 q1
            have ⟨n20,n21,_,_⟩:=n2
            have G4H:=Lib.hid G4
            clear n2 hw4 cK q1 hG G4 HNO hdec HU1
            go_still_tail 16,(by kernel_rfl)
            change wpList _ _ _ _ _ w4.drew
            go_wp2_with (first
             | (go_at_fn p.gf; ((with_reducible refine hcall.mono ?_); rintro e w5 ⟨r5,rfl,h5,g5⟩; have d5:((r5:Int) == 0) = false:=by rw [beq_eq_false_iff_ne]; omega)))
            go_ret
            exact ⟨rfl,HW.out.trans (wider_but (G4H.out.drew) g5) (fun i m => .inl m),fun e => absurd e (by decide)⟩
        · have d1:decide ((n:Int) < (i:Int) + 1) = true:=decide_eq_true (by omega)
          have d2:decide (n ≤ i) = true:=decide_eq_true (by omega)
          have d3:decide ((n:Int) ≤ (i:Int)) = true:=decide_eq_true (by omega)
          have d4:n ≤ i:=by omega
          have hr3:=HNO (step_none (by show ¬ (1 ≤ i + 1 ∧ i + 1 ≤ cs.length); rw [HLC.out]; omega))
          subst hr3
          clear HNO HG HO1
          go_upto_region 7 with (fail)
          have G4:=(Wider.refl wr).alloc (.cells #[.int .u8 ((i:Int) + 1),.string q] 89)
          obtain ⟨w4,hw4⟩ : ∃ w4,wr.alloc (.cells #[.int .u8 ((i:Int) + 1),.string q] 89) = w4:=⟨_,rfl⟩
          rw [hw4] at n2 G4 ⊢
          have cK4:∀ x:After w4,x.w.cell? ⟨K,0,none⟩ = some (.slice (some ⟨P,0,none⟩) n n):=fun x => wkeep x.h (wkeep G4 cK)
          have n20:∀ x:After w4,x.w.cell? ⟨wr.heap.size,0,none⟩ = some (.int .u8 ((i:Int) + 1)):=fun x => wkeep x.h n2.1
          have n21:∀ x:After w4,x.w.cell? ⟨wr.heap.size,1,none⟩ = some (.string q):=fun x => wkeep x.h n2.2.1
          have G4H:=Lib.hid G4
          clear n2 hw4 cK G4
          refine wp_region_after (by kernel_rfl) (by kernel_rfl) (Wider.refl _) ?_
          repeat (go_big_quiet_step (fail))
          refine wpQuiet_nil ?_
          rintro _ ⟨y,rfl⟩
          go_wp2
          go_ret
          exact ⟨rfl,HW.out.trans ((G4H.out.trans y.h).but _) (fun i m => .inl m)⟩
    · obtain rfl:j = nm:=by omega
      have hu:=HU.out.2.2.2.2
      rw [List.take_of_length_le (by rw [HN.out]; exact Nat.le_refl _)] at hu
      have k:=HR.out
      rw [decG_some HD.out hu] at k
      injection k with k1 k2
      subst k1 k2
      clear hu HO1
      go_wp2
      go_ret
      exact ⟨rfl,HW.out,C',HU.out.1,HU.out.2.1,HU.out.2.2.1,HU.out.2.2.2.1⟩
 · rw [decG_err hd c0] at hr
   injection hr with h1 h2
   subst h2
   have d0:((c:Int) == 0) = false:=by rw [beq_eq_false_iff_ne]; omega
   have d1:((c:Int) != 0) = true:=by rw [bne_iff_ne]; omega
   clear hp hnd hS hos hst hd hlp hlo hlr hn9
   go_enter Tryz.func182,Tryz.ntmps182
   go_wp2_with (go_at_call 38; ((with_reducible refine (zd _).mono ?_); rintro e w2 ⟨A,cp,rfl,g2,h2⟩))
   go_ret
   exact ⟨rfl,g2.but _,fun e => absurd e c0⟩
end Go.Proofs.YtoopdhgmdjienaaGreatDoor
