/- PMath OFew OLarge OMsgIn PRep PInt PWords OReads OPuts OLit -/
import Derived.Test.YtoopdhgmdjienaaGreatDoorPkR24
namespace Go.Proofs.YtoopdhgmdjienaaGreatDoor
set_option linter.unusedVariables false
set_option maxHeartbeats 64000000
inductive PartN
 | one (v:ValN)
 | obj (vs:List ValN)
def oneP (c:Cod ValN):Cod PartN where
 enc p:=match p with
  | .one v => c.enc v
  | _ => ⟨#[]⟩
 dec s:=(c.dec s).map .one
 ok p:=∃ v,p = .one v ∧ c.ok v
 zero:=.one c.zero
 cap:=c.cap
 there p h:=by obtain ⟨v,rfl,h⟩:=h; simp only [c.there v h,Option.map_some]
 back s p h:=by
  cases e:c.dec s with
  | none => rw [e] at h; cases h
  | some v =>
    rw [e] at h
    simp only [Option.map_some,Option.some.injEq] at h
    subst h
    obtain ⟨h1,h2⟩:=c.back s v e
    exact ⟨⟨v,rfl,h1⟩,h2⟩
 none_:=by rw [c.none_]; rfl
 small p h:=by obtain ⟨v,rfl,h⟩:=h; exact c.small v h
def objP (cs:List (Cod ValN)) (hc:∀ c ∈ cs,c.cap ≤ 65535) (hn:cs.length < 255) (hs:∀ vs,okG cs vs → (encG cs vs).size ≤ 65535):Cod PartN where
 enc p:=match p with
  | .obj vs => encG cs vs
  | _ => ⟨#[]⟩
 dec s:=if (decG cs s.data.toList).2 = 0 then some (.obj (decG cs s.data.toList).1) else none
 ok p:=∃ vs,p = .obj vs ∧ okG cs vs
 zero:=.obj (zeroG cs)
 cap:=65535
 there p h:=by obtain ⟨v,rfl,h⟩:=h; simp only []; rw [decG_enc cs v h hc hn]; rfl
 back s p h:=by
  split at h
  · rename_i c0
    injection h with h
    subst h
    obtain ⟨h1,h2⟩:=decG_inv cs s _ (Prod.ext rfl c0)
    exact ⟨⟨_,rfl,h1⟩,h2⟩
  · cases h
 none_:=by
  have e:=decG_enc cs (zeroG cs) (okG_zero cs) hc hn
  rw [encG_zero] at e
  rw [e]; rfl
 small p h:=by obtain ⟨v,rfl,h⟩:=h; exact hs v h
def noneP {β:Type} (c:Cod β):Cod β where
 enc _:=⟨#[]⟩
 dec s:=if s.size = 0 then some c.zero else none
 ok v:=v = c.zero
 zero:=c.zero
 cap:=0
 there v h:=by subst h; rfl
 back s v h:=by
  split at h
  · rename_i q
    injection h with h
    exact ⟨h.symm,(empty_of s q).symm⟩
  · cases h
 none_:=rfl
 small v h:=Nat.le_refl 0
theorem lstV_small {most:Nat} {it:Cod (List Int)} {hm:most * (2 + it.cap) ≤ 65535} {hi:it.cap ≤ 65535} (v:ValN) (h:(lstV most it hm hi).ok v):((lstV most it hm hi).enc v).size ≤ most * (2 + it.cap):=by
 obtain ⟨l,rfl,h1,h2⟩:=h
 show (encT (l.map it.enc)).size ≤ _
 unfold encT
 split
 · rw [mkB_size]
   have q:=bytsT_capped (l.map it.enc) it.cap (fun s hs => by
    obtain ⟨x,hx,rfl⟩:=List.mem_map.1 hs
    exact it.small x (h2 x hx))
   rw [List.length_map] at q
   exact Nat.le_trans q (Nat.mul_le_mul_right _ h1)
 · exact Nat.zero_le _
def Caps {β:Type} : List (Cod β) → List Nat → Prop
 | [],[] => True
 | c :: cs,b :: bs => (∀ v,c.ok v → (c.enc v).size ≤ b) ∧ Caps cs bs
 | _,_ => False
theorem attrsG_caps {β:Type} : ∀ (cs:List (Cod β)) (bs:List Nat) (vs:List β) (k:Nat),Caps cs bs → okG cs vs → (bytsA (attrsG k cs vs)).length ≤ (bs.map fun b => 3 + b).sum
 | [],[],[],_,_,_ => by simp [attrsG,bytsA]
 | c :: cs,b :: bs,v :: vs,k,hc,h => by
   have q:=attrsG_caps cs bs vs (k + 1) hc.2 h.2
   have r:=hc.1 v h.1
   unfold attrsG
   rw [List.map_cons,List.sum_cons]
   split
   · omega
   · rw [bytsA_cons,List.length_append,bytA_length]
     show 3 + (c.enc v).size + _ ≤ _
     omega
 | [],_ :: _,_,_,hc,_ => hc.elim
 | _ :: _,[],_,_,hc,_ => hc.elim
 | [],[],_ :: _,_,_,h => h.elim
 | _ :: _,_ :: _,[],_,_,h => h.elim
theorem encG_caps {β:Type} {cs:List (Cod β)} {bs:List Nat} (hc:Caps cs bs) (hb:(bs.map fun b => 3 + b).sum ≤ 65535) {vs:List β} (h:okG cs vs):(encG cs vs).size ≤ 65535:=by
 unfold encG encA
 split
 · rw [mkB_size]
   exact Nat.le_trans (attrsG_caps cs bs vs 1 hc h) hb
 · exact Nat.zero_le _
theorem csKind_small (k:Nat) (vs:List ValN) (h:okG (csKind k) vs):(encG (csKind k) vs).size ≤ 65535:=by
 match k with
 | 0 => exact encG_caps (cs:=csNode) (bs:=[8,8,8,8,8,8,8,8,32 * (2 + cArm.cap)]) ⟨nI.small,nI.small,nI.small,nI.small,nI.small,nI.small,nI.small,nI.small,lstV_small,trivial⟩ (by decide) h
 | 1 => exact encG_caps (cs:=csField) (bs:=[8,8,8,8,8]) ⟨nI.small,nB.small,nI.small,nI.small,nI.small,trivial⟩ (by decide) h
 | 2 => exact encG_caps (cs:=csTable) (bs:=[8,8,4 * (2 + cKey.cap),8,8]) ⟨nI.small,nB.small,lstV_small,nI.small,nI.small,trivial⟩ (by decide) h
 | 3 => exact encG_caps (cs:=csEntry) (bs:=[8,32,32,8,8,8,4 * (2 + cArg.cap),8,8,8,8]) ⟨nI.small,tK.small,tK.small,nI.small,nI.small,nI.small,lstV_small,nL.small,nL.small,nU.small,nT.small,trivial⟩ (by decide) h
 | 4 => exact encG_caps (cs:=csBlock) (bs:=[8,32 * (2 + cInstr.cap)]) ⟨nI.small,lstV_small,trivial⟩ (by decide) h
 | 5 => exact encG_caps (cs:=csGroup) (bs:=[8,8,8,16 * (2 + cBucket.cap)]) ⟨nI.small,nB.small,nI.small,lstV_small,trivial⟩ (by decide) h
 | 6 => exact encG_caps (cs:=csMeter) (bs:=[8,8,8]) ⟨nI.small,nL.small,nL.small,trivial⟩ (by decide) h
 | k + 7 => exact encG_caps (cs:=csRegs) (bs:=[8,8]) ⟨nI.small,nI.small,trivial⟩ (by decide) h
def hasL:Nat → List Nat
 | 2 | 44 => [6]
 | 3 | 4 => [8]
 | 6 => [2,6]
 | 9 => [2,3]
 | 10 => [3]
 | 11 => [10]
 | 13 => [11]
 | 15 => [12]
 | 17 | 18 => [13]
 | 19 => [14]
 | 21 => [15]
 | 23 => [16]
 | 25 => [17]
 | 12 | 14 | 16 | 20 | 22 | 24 | 26 | 27 | 28 | 29 | 34 | 45 => [1]
 | 30 => [1,6,7]
 | 31 => [1,2,6]
 | 32 | 33 => [1,2,9]
 | 35 | 46 => [1,6]
 | 37 => [9]
 | 38 => [4]
 | 39 => [2,4,6]
 | 40 => [4,8]
 | 41 => [4,5,8]
 | 42 => [5,13]
 | _ => []
def lWords:Cod ValN:=lstV 128 cArg (by decide) (by decide)
def partC (most:Nat):Nat → Cod PartN
 | 0 | 1 | 2 | 3 | 4 => oneP nI
 | 5 | 6 => oneP nU
 | 7 => oneP (txtV most)
 | 8 => oneP lWords
 | i => objP (csKind (i - 9)) (csKind_cap _) (by have:=csKind_length (i - 9); omega) (csKind_small _)
def csM (most:Nat) (k:Nat):List (Cod PartN):=(List.range 17).map fun i => if (i + 1) ∈ hasL k then partC most i else noneP (partC most i)
theorem csM_length (most k:Nat):(csM most k).length = 17:=by simp [csM]
theorem csM_at (most k i:Nat) (hi:i < 17):(csM most k)[i]? = some (if (i + 1) ∈ hasL k then partC most i else noneP (partC most i)):=by
 simp [csM,hi]
theorem partC_cap (most i:Nat) (hm:most ≤ 65535):(partC most i).cap ≤ 65535:=by
 match i with
 | 0 | 1 | 2 | 3 | 4 | 5 | 6 => exact (by decide:8 ≤ 65535)
 | 7 => exact hm
 | 8 => exact Nat.le_refl 65535
 | i + 9 => exact Nat.le_refl 65535
theorem csM_cap (most k:Nat) (hm:most ≤ 65535):∀ c ∈ csM most k,c.cap ≤ 65535:=by
 intro c hc
 obtain ⟨i,_,rfl⟩:=List.mem_map.1 hc
 split
 · exact partC_cap most i hm
 · exact Nat.zero_le _
abbrev topD:Nat:=9223372036854775807
def zeroP:List PartN:=(List.range 17).map fun i => (partC 65535 i).zero
theorem partC_zero (most i:Nat):(partC most i).zero = (partC 65535 i).zero:=by
 match i with
 | 0 | 1 | 2 | 3 | 4 | 5 | 6 | 7 | 8 => rfl
 | i + 9 => rfl
theorem zeroG_csM (most k:Nat):zeroG (csM most k) = zeroP:=by
 unfold zeroG csM zeroP
 rw [List.map_map]
 apply List.map_congr_left
 intro i _
 simp only [Function.comp_apply]
 split
 · exact partC_zero most i
 · exact partC_zero most i
def headB (k x:Nat):List UInt8:=[UInt8.ofNat k,UInt8.ofNat (x / 16777216),UInt8.ofNat (x / 65536),UInt8.ofNat (x / 256),UInt8.ofNat x]
theorem headB_length (k x:Nat):(headB k x).length = 5:=rfl
def MayM (k:Nat) (ps:List PartN):Prop:=(1 ≤ k ∧ k ≤ 46) ∧ okG (csM topD k) ps
def bodyM (k x:Nat) (ps:List PartN):List UInt8:=headB k x ++ bytsA (attrsG 1 (csM topD k) ps)
def EncM (k x:Nat) (ps:List PartN) (T:ByteArray) (r:Nat):Prop :=
 (MayM k ps ∧ (bodyM k x ps).length ≤ 16384 ∧ T = mkB (bodyM k x ps) ∧ r = 0) ∨
 (MayM k ps ∧ 16384 < (bodyM k x ps).length ∧ T = ⟨#[]⟩ ∧ r = 5) ∨
 (¬ MayM k ps ∧ T = ⟨#[]⟩ ∧ r = 3)
def decM (s:List UInt8):(Nat × Nat × List PartN) × Nat :=
 if s.length < 5 then ((0,0,zeroP),4) else if 16384 < s.length then ((0,0,zeroP),5) else
 let k:=(s.headD 0).toNat
 if k < 1 ∨ 46 < k then ((0,0,zeroP),15) else
 if (decG (csM 65535 k) (s.drop 5)).2 = 0 then ((k,readB ((s.drop 1).take 4),(decG (csM 65535 k) (s.drop 5)).1),0) else ((0,0,zeroP),(decG (csM 65535 k) (s.drop 5)).2)
theorem okG_iff {β:Type} : ∀ (cs:List (Cod β)) (vs:List β),okG cs vs ↔ vs.length = cs.length ∧ ∀ (i:Nat) (c:Cod β) (v:β),cs[i]? = some c → vs[i]? = some v → c.ok v
 | [],[] => by simp [okG]
 | [],_ :: _ => by simp [okG]
 | _ :: _,[] => by simp [okG]
 | c :: cs,v :: vs => by
   show c.ok v ∧ okG cs vs ↔ _
   rw [okG_iff cs vs]
   constructor
   · rintro ⟨h1,h2,h3⟩
     refine ⟨by simp [h2],fun i d u e1 e2 => ?_⟩
     match i,e1,e2 with
     | 0,e1,e2 => injection e1 with e1; injection e2 with e2; subst e1 e2; exact h1
     | i + 1,e1,e2 => exact h3 i d u e1 e2
   · rintro ⟨h2,h3⟩
     exact ⟨h3 0 c v rfl rfl,by simpa using h2,fun i d u e1 e2 => h3 (i + 1) d u e1 e2⟩
theorem attrsG_congr {β:Type} : ∀ (cs ds:List (Cod β)) (vs:List β) (k:Nat),cs.map Cod.enc = ds.map Cod.enc → attrsG k cs vs = attrsG k ds vs
 | [],[],_,_,_ => rfl
 | [],_ :: _,_,_,h => by simp at h
 | _ :: _,[],_,_,h => by simp at h
 | c :: cs,d :: ds,[],_,_ => by simp [attrsG]
 | c :: cs,d :: ds,v :: vs,k,h => by
   simp only [List.map_cons,List.cons.injEq] at h
   unfold attrsG
   rw [h.1,attrsG_congr cs ds vs (k + 1) h.2]
theorem partC_enc (most i:Nat):(partC most i).enc = (partC 65535 i).enc:=by
 match i with
 | 0 | 1 | 2 | 3 | 4 | 5 | 6 | 7 | 8 => rfl
 | i + 9 => rfl
theorem csM_enc (most k:Nat):(csM most k).map Cod.enc = (csM 65535 k).map Cod.enc:=by
 unfold csM
 rw [List.map_map,List.map_map]
 apply List.map_congr_left
 intro i _
 simp only [Function.comp_apply]
 split
 · exact partC_enc most i
 · rfl
theorem attrsG_csM (most k:Nat) (ps:List PartN):attrsG 1 (csM most k) ps = attrsG 1 (csM 65535 k) ps:=attrsG_congr _ _ _ _ (csM_enc most k)
theorem attrsG_enc_le {β:Type} : ∀ (cs:List (Cod β)) (vs:List β) (k i:Nat) (c:Cod β) (v:β),cs[i]? = some c → vs[i]? = some v → (c.enc v).size ≤ (bytsA (attrsG k cs vs)).length
 | [],_,_,i,_,_,h,_ => by simp at h
 | _ :: _,[],_,i,_,_,_,h => by simp at h
 | c :: cs,v :: vs,k,i,d,u,h1,h2 => by
   unfold attrsG
   match i,h1,h2 with
   | 0,h1,h2 =>
     injection h1 with h1; injection h2 with h2; subst h1 h2
     split
     · omega
     · rw [bytsA_cons,List.length_append,bytA_length]
       show _ ≤ 3 + (c.enc v).size + _
       omega
   | i + 1,h1,h2 =>
     have q:=attrsG_enc_le cs vs (k + 1) i d u h1 h2
     split
     · exact q
     · rw [bytsA_cons,List.length_append]
       omega
theorem partC_ok_up (i:Nat) (p:PartN) (h:(partC 65535 i).ok p):(partC topD i).ok p:=by
 match i with
 | 0 | 1 | 2 | 3 | 4 | 5 | 6 | 8 => exact h
 | 7 => obtain ⟨v,rfl,s,rfl,hs⟩:=h; exact ⟨_,rfl,s,rfl,by show s.size ≤ 9223372036854775807; omega⟩
 | i + 9 => exact h
theorem partC_ok_down (i:Nat) (p:PartN) (h:(partC topD i).ok p) (hs:((partC topD i).enc p).size ≤ 65535):(partC 65535 i).ok p:=by
 match i with
 | 0 | 1 | 2 | 3 | 4 | 5 | 6 | 8 => exact h
 | 7 => obtain ⟨v,rfl,s,rfl,_⟩:=h; exact ⟨_,rfl,s,rfl,hs⟩
 | i + 9 => exact h
theorem csM_ok_up {k:Nat} {ps:List PartN} (h:okG (csM 65535 k) ps):okG (csM topD k) ps:=by
 rw [okG_iff] at h ⊢
 refine ⟨by rw [h.1,csM_length,csM_length],fun i c v e1 e2 => ?_⟩
 have hi:i < 17:=by have:=(List.getElem?_eq_some_iff.1 e1).1; rwa [csM_length] at this
 have q:=h.2 i _ v (csM_at 65535 k i hi) e2
 rw [csM_at topD k i hi] at e1
 injection e1 with e1
 subst e1
 split
 · rename_i c0; rw [if_pos c0] at q; exact partC_ok_up i v q
 · rename_i c0; rw [if_neg c0] at q; exact q.trans (partC_zero topD i).symm
theorem csM_ok_down {k:Nat} {ps:List PartN} (h:okG (csM topD k) ps) (hs:(bytsA (attrsG 1 (csM topD k) ps)).length ≤ 65535):okG (csM 65535 k) ps:=by
 rw [okG_iff] at h ⊢
 refine ⟨by rw [h.1,csM_length,csM_length],fun i c v e1 e2 => ?_⟩
 have hi:i < 17:=by have:=(List.getElem?_eq_some_iff.1 e1).1; rwa [csM_length] at this
 have q:=h.2 i _ v (csM_at topD k i hi) e2
 have l:=attrsG_enc_le (csM topD k) ps 1 i _ v (csM_at topD k i hi) e2
 rw [csM_at 65535 k i hi] at e1
 injection e1 with e1
 subst e1
 split
 · rename_i c0; rw [if_pos c0] at q l; exact partC_ok_down i v q (Nat.le_trans l hs)
 · rename_i c0; rw [if_neg c0] at q; exact q.trans (partC_zero topD i)
theorem readB4 (x:Nat) (h:x < 4294967296):readB [UInt8.ofNat (x / 16777216),UInt8.ofNat (x / 65536),UInt8.ofNat (x / 256),UInt8.ofNat x] = x:=by
 simp only [readB,List.foldl_cons,List.foldl_nil,UInt8.toNat_ofNat']
 omega
theorem headB_read (a b c d e:UInt8):headB a.toNat (readB [b,c,d,e]) = [a,b,c,d,e]:=by
 have hb:=b.toNat_lt; have hc:=c.toNat_lt; have hd:=d.toNat_lt; have he:=e.toNat_lt
 have q:readB [b,c,d,e] = ((b.toNat * 256 + c.toNat) * 256 + d.toNat) * 256 + e.toNat:=by simp [readB]
 unfold headB
 rw [q]
 congr 1
 · exact UInt8.ofNat_toNat
 · refine List.cons_eq_cons.2 ⟨?_,List.cons_eq_cons.2 ⟨?_,List.cons_eq_cons.2 ⟨?_,List.cons_eq_cons.2 ⟨?_,rfl⟩⟩⟩⟩ <;>
   · apply UInt8.toNat.inj
     rw [UInt8.toNat_ofNat']
     omega
theorem decM_enc {k x:Nat} {ps:List PartN} (h:MayM k ps) (hx:x < 4294967296) (hl:(bodyM k x ps).length ≤ 16384):decM (bodyM k x ps) = ((k,x,ps),0):=by
 have hl2:(bytsA (attrsG 1 (csM topD k) ps)).length ≤ 16379:=by
  have:(bodyM k x ps).length = 5 + (bytsA (attrsG 1 (csM topD k) ps)).length:=by unfold bodyM; rw [List.length_append,headB_length]
  omega
 have hok:=csM_ok_down h.2 (by omega)
 have hcap:=csM_cap 65535 k (by omega)
 have hd:=decG_enc (csM 65535 k) ps hok hcap (by rw [csM_length]; omega)
 rw [encG_bytes _ _ hok hcap,mkB_data] at hd
 have e:(bodyM k x ps).drop 5 = bytsA (attrsG 1 (csM 65535 k) ps):=by rw [← attrsG_csM topD]; rfl
 have e0:((bodyM k x ps).headD 0).toNat = k:=by
  show (UInt8.ofNat k).toNat = k
  rw [UInt8.toNat_ofNat']; have:=h.1; omega
 have e1:readB (((bodyM k x ps).drop 1).take 4) = x:=readB4 x hx
 have l5:¬ (bodyM k x ps).length < 5:=by unfold bodyM; rw [List.length_append,headB_length]; omega
 unfold decM
 rw [if_neg l5,if_neg (by omega)]
 simp only [e0]
 rw [if_neg (by have:=h.1; omega),e,hd,e1]
 rfl
theorem decM_inv {s:List UInt8} {k x:Nat} {ps:List PartN} (h:decM s = ((k,x,ps),0)):MayM k ps ∧ x < 4294967296 ∧ bodyM k x ps = s ∧ s.length ≤ 16384:=by
 unfold decM at h
 split at h
 · cases h
 rename_i l5
 split at h
 · cases h
 rename_i l6
 simp only [] at h
 split at h
 · cases h
 rename_i hk
 split at h
 · rename_i hd
   simp only [Prod.mk.injEq] at h
   obtain ⟨⟨rfl,rfl,rfl⟩,-⟩:=h
   obtain ⟨h1,h2⟩:=decG_inv (csM 65535 (s.headD 0).toNat) (mkB (s.drop 5)) _ (Prod.ext rfl (by rw [mkB_data]; exact hd))
   rw [mkB_data] at h1 h2
   have hcap:=csM_cap 65535 (s.headD 0).toNat (by omega)
   rw [encG_bytes _ _ h1 hcap] at h2
   have h3:=mkB_inj h2
   match s,l5 with
   | a :: b :: c :: d :: e :: s,_ =>
     refine ⟨⟨by omega,csM_ok_up h1⟩,?_,?_,by omega⟩
     · have q:readB [b,c,d,e] < 256 ^ 4:=readB_lt [b,c,d,e]
       rw [show (256:Nat) ^ 4 = 4294967296 by decide] at q
       exact q
     · unfold bodyM
       rw [attrsG_csM topD,h3]
       show headB a.toNat (readB [b,c,d,e]) ++ s = _
       rw [headB_read]; rfl
   | [],l5 => exact absurd (show ([] : List UInt8).length < 5 by decide) l5
   | [_],l5 => exact absurd (show 1 < 5 by decide) l5
   | [_,_],l5 => exact absurd (show 2 < 5 by decide) l5
   | [_,_,_],l5 => exact absurd (show 3 < 5 by decide) l5
   | [_,_,_,_],l5 => exact absurd (show 4 < 5 by decide) l5
 · rename_i hd
   simp only [Prod.mk.injEq] at h
   exact absurd h.2 hd
end Go.Proofs.YtoopdhgmdjienaaGreatDoor
namespace Go.Proofs.YtoopdhgmdjienaaGreatDoor
set_option linter.unusedVariables false
set_option maxRecDepth 20000
open Go.ChangeShapes Go.WideShapes Go.ChangeAt Go.RowKit Go.Joins
open Go.ChangeMaps (open_string shut_string)
set_option maxHeartbeats 64000000
structure MsgD where
 kind:Int
 xid:Int
 id:Int
 idx:Int
 code:Int
 port:Int
 tag:Int
 n:Int
 m:Int
 data:ByteArray
 words:List (List Int)
 V:Nat → List ValN
def MsgD.ps (d:MsgD):List PartN:=[.one (.num d.id),.one (.num d.idx),.one (.num d.code),.one (.num d.port),.one (.num d.tag),.one (.num d.n),.one (.num d.m),.one (.txt d.data),.one (.lst d.words),.obj (d.V 0),.obj (d.V 1),.obj (d.V 2),.obj (d.V 3),.obj (d.V 4),.obj (d.V 5),.obj (d.V 6),.obj (d.V 7)]
structure RowW (w:World) (v:Value) (L:List (List Int)) (A:Option Addr) (n cap:Nat):Prop where
 val:v = .slice A n cap
 row:RowAt w A 1 (rowsK ksArg L)
 len:L.length = n
 few:n < 1000000
 wf:∀ x ∈ L,wfK ksArg x
structure RepD (w:World) (M:Array Value) (d:MsgD):Prop where
 A:RepA w M d.V
 c0:M[0]? = some (.int .u8 d.kind)
 w0:(Lit.int .u8 d.kind).wf = true
 c1:M[1]? = some (.int .u32 d.xid)
 w1:(Lit.int .u32 d.xid).wf = true
 c2:M[2]? = some (.int .i64 d.id)
 w2:(Lit.int .i64 d.id).wf = true
 c3:M[3]? = some (.int .i64 d.idx)
 w3:(Lit.int .i64 d.idx).wf = true
 c4:M[4]? = some (.int .i64 d.code)
 w4:(Lit.int .i64 d.code).wf = true
 c5:M[5]? = some (.int .i64 d.port)
 w5:(Lit.int .i64 d.port).wf = true
 c6:M[6]? = some (.int .i64 d.tag)
 w6:(Lit.int .i64 d.tag).wf = true
 c7:M[7]? = some (.int .u64 d.n)
 w7:(Lit.int .u64 d.n).wf = true
 c8:M[8]? = some (.int .u64 d.m)
 w8:(Lit.int .u64 d.m).wf = true
 c9:M[9]? = some (.string d.data)
 w9:d.data.size ≤ maxLen
 c10:∃ v A n cap,M[10]? = some v ∧ RowW w v d.words A n cap
theorem RepD.size {w:World} {M:Array Value} {d:MsgD} (h:RepD w M d):M.size = 52:=h.A.size
theorem RepD.on {W w:World} {M:Array Value} {d:MsgD} (h:RepD W M d) (g:Wider W w):RepD w M d :=
 ⟨h.A.on g,h.c0,h.w0,h.c1,h.w1,h.c2,h.w2,h.c3,h.w3,h.c4,h.w4,h.c5,h.w5,h.c6,h.w6,h.c7,h.w7,h.c8,h.w8,h.c9,h.w9,by
  obtain ⟨v,A,n,cap,e,r⟩:=h.c10
  exact ⟨v,A,n,cap,e,r.val,r.row.on g,r.len,r.few,r.wf⟩⟩
def SameD (d e:MsgD):Prop:=d.kind = e.kind ∧ d.xid = e.xid ∧ d.ps = e.ps
theorem ps_eq (d e:MsgD):d.ps = e.ps ↔ d.id = e.id ∧ d.idx = e.idx ∧ d.code = e.code ∧ d.port = e.port ∧ d.tag = e.tag ∧ d.n = e.n ∧ d.m = e.m ∧ d.data = e.data ∧ d.words = e.words ∧ d.V 0 = e.V 0 ∧ d.V 1 = e.V 1 ∧ d.V 2 = e.V 2 ∧ d.V 3 = e.V 3 ∧ d.V 4 = e.V 4 ∧ d.V 5 = e.V 5 ∧ d.V 6 = e.V 6 ∧ d.V 7 = e.V 7:=by
 simp only [MsgD.ps,List.cons.injEq,and_true,PartN.one.injEq,PartN.obj.injEq,ValN.num.injEq,ValN.txt.injEq,ValN.lst.injEq]
theorem ps_length (d:MsgD):d.ps.length = 17:=rfl
theorem quiet_cell {P:Program} {op:Oper} {a:Act} {Cl:World → Prop} {K:Act → Prop} (ty:TypeId) (x:Operand) (hop:op.op = .load ty x)
 (g o:Nat) (hx:a.eval x = .pointer (some ⟨g,o,none⟩)) {v:Value} (hg:∀ w,Cl w → w.cell? ⟨g,o,none⟩ = some v) (d:TypeDesc)
 (hu:P.underlying ty = some d) (hd:d.isRow = false) (h:K (a.put op.dst v)):op.quiet P a Cl K :=
 ⟨_,fun w hw => by
  have hagg:(isAgg ty).run P w = .ok false w:=by
   unfold isAgg
   rw [Sem.run_bind,run_underlying hu w]
   cases d <;> simp_all
  have q:(Instr.loadAt ty (.pointer (some ⟨g,o,none⟩))).run P w = .ok v w:=by
   simp [Instr.loadAt,Instr.sureAddr,loadVar,Sem.run_bind,hagg,hg w hw]
  unfold Oper.quietAt execOp; simp only [hop,hx,Sem.run_bind,q,Result.andThen_ok,Sem.run_pure]; exact ⟨rfl,rfl⟩,h⟩
theorem rnum_le {s:List UInt8} {top v r:Nat} (h:rnumN s top = (v,r)):v ≤ top:=by
 rcases rnum_codes s top with c | c
 · rw [h] at c
   simp only at c
   subst c
   exact (rnum_inv s top v h).1
 · rw [h] at c
   simp only [Prod.mk.injEq] at c
   omega
theorem known_c (w:World) (k:Nat) (hk:k < 256) {r:Bool} (hr:r = decide (1 ≤ k ∧ k ≤ 46)) :
 Calls Tryz.prog 12 #[.int .u8 (k:Int)] w fun e w' => e = .returned (.bool r) ∧ Wider w w':=by
 by_cases c:1 ≤ (k:Int)
 · by_cases d:(k:Int) ≤ 46
   · obtain rfl:r = true:=by rw [hr,decide_eq_true_eq]; omega
     clear hr
     go_enter Tryz.func12,Tryz.ntmps12
     go_wp2
     go_ret
     exact ⟨rfl,Wider.refl w⟩
   · obtain rfl:r = false:=by rw [hr,decide_eq_false_iff_not]; omega
     clear hr
     go_enter Tryz.func12,Tryz.ntmps12
     go_wp2
     go_ret
     exact ⟨rfl,Wider.refl w⟩
 · obtain rfl:r = false:=by rw [hr,decide_eq_false_iff_not]; omega
   clear hr
   go_enter Tryz.func12,Tryz.ntmps12
   go_wp2
   go_ret
   exact ⟨rfl,Wider.refl w⟩
theorem rknown_c (w:World) (k:Nat) (hk:k < 256) {r:Bool} (hr:r = decide (1 ≤ k ∧ k ≤ 46)) :
 Calls Tryz.prog 27 #[.int .u8 (k:Int)] w fun e w' => e = .returned (.bool r) ∧ Wider w w':=by
 by_cases c:1 ≤ (k:Int)
 · by_cases d:(k:Int) ≤ 46
   · obtain rfl:r = true:=by rw [hr,decide_eq_true_eq]; omega
     clear hr
     go_enter Tryz.func27,Tryz.ntmps27
     go_wp2
     go_ret
     exact ⟨rfl,Wider.refl w⟩
   · obtain rfl:r = false:=by rw [hr,decide_eq_false_iff_not]; omega
     clear hr
     go_enter Tryz.func27,Tryz.ntmps27
     go_wp2
     go_ret
     exact ⟨rfl,Wider.refl w⟩
 · obtain rfl:r = false:=by rw [hr,decide_eq_false_iff_not]; omega
   clear hr
   go_enter Tryz.func27,Tryz.ntmps27
   go_wp2
   go_ret
   exact ⟨rfl,Wider.refl w⟩
def PutC {β:Type} (c:Cod β) (v:β) (T:ByteArray) (r:Nat):Prop:=(c.ok v ∧ T = c.enc v ∧ r = 0) ∨ (¬ c.ok v ∧ T = ⟨#[]⟩ ∧ r = 3)
theorem putInt_c (w:World) (n:Int) (h0:-9223372036854775808 ≤ n) (h1:n ≤ 9223372036854775807) {T:ByteArray} {r:Nat} (hr:PutC iI n T r) :
 Calls Tryz.prog 109 #[.int .i64 n] w fun e w' => e = .returned (.tuple #[.string T,.int .i64 (r:Int)]) ∧ Wider w w':=by
 rcases hr with ⟨⟨g0,g1⟩,hT,rfl⟩ | ⟨g,rfl,rfl⟩
 · have g2:n ≤ 2147483647:=g1
   obtain ⟨k,rfl⟩ : ∃ k:Nat,n = (k:Int):=⟨n.toNat,by omega⟩
   have c0:¬ (k:Int) < 0:=by omega
   have c1:¬ (2147483647:Int) < (k:Int):=by omega
   have zn:=fun W:World => tnum_a k W (by omega) (T:=T) (by rw [hT]; rfl)
   clear hT g1
   go_enter Tryz.func109,Tryz.ntmps109
   go_wp2_with (first | (go_at_call 110; (with_reducible refine (zn _).mono ?_); rintro e wN ⟨rfl,gN⟩))
   go_ret2
   exact ⟨rfl,gN⟩
 · by_cases c0:n < 0
   · clear g
     go_enter Tryz.func109,Tryz.ntmps109
     go_wp2
     go_ret2
     exact ⟨rfl,Wider.refl w⟩
   · have c1:(2147483647:Int) < n:=by
      have:¬ (0 ≤ n ∧ n ≤ 2147483647):=g
      omega
     clear g
     go_enter Tryz.func109,Tryz.ntmps109
     go_wp2
     go_ret2
     exact ⟨rfl,Wider.refl w⟩
theorem getInt_c (w:World) (s:ByteArray) (hs:s.size < 1000000) {v r:Nat} (hr:rnumN s.data.toList 2147483647 = (v,r)) :
 Calls Tryz.prog 80 #[.string s] w fun e w' => e = .returned (.tuple #[.int .i64 (v:Int),.int .i64 (r:Int)]) ∧ Wider w w':=by
 have hv:=rnum_le hr
 have v0:(0:Int) ≤ (v:Int):=by omega
 have v1:(v:Int) ≤ 2147483647:=by omega
 have zr:=fun W:World => treadnum_a s 2147483647 W (by omega) (by decide) hr
 simp only [Int.cast_ofNat_Int] at zr
 clear hr hv
 go_enter Tryz.func80,Tryz.ntmps80
 go_wp2_with (first | (go_at_call 122; (with_reducible refine (zr _).mono ?_); rintro e wN ⟨rfl,gN⟩))
 go_ret2
 exact ⟨rfl,gN⟩
theorem getLong_c (w:World) (s:ByteArray) (hs:s.size < 1000000) {v r:Nat} (hr:rnumN s.data.toList 18446744073709551615 = (v,r)) :
 Calls Tryz.prog 81 #[.string s] w fun e w' => e = .returned (.tuple #[.int .u64 (v:Int),.int .i64 (r:Int)]) ∧ Wider w w':=by
 have hv:=rnum_le hr
 have v0:(0:Int) ≤ (v:Int):=by omega
 have v1:(v:Int) ≤ 18446744073709551615:=by omega
 have zr:=fun W:World => treadnum_a s 18446744073709551615 W (by omega) (by decide) hr
 simp only [Int.cast_ofNat_Int] at zr
 clear hr hv
 go_enter Tryz.func81,Tryz.ntmps81
 go_wp2_with (first | (go_at_call 122; (with_reducible refine (zr _).mono ?_); rintro e wN ⟨rfl,gN⟩))
 go_ret2
 exact ⟨rfl,gN⟩
theorem whole_c (w:World) (s:ByteArray) (hs:s.size < 1000000) {v r:Nat} (hr:rnumN s.data.toList 2147483647 = (v,r)) :
 Calls Tryz.prog 91 #[.string s] w fun e w' => e = .returned (.tuple #[.int .i64 (v:Int),.bool ((r:Int) == 0)]) ∧ Wider w w':=by
 have hv:=rnum_le hr
 have v0:(0:Int) ≤ (v:Int):=by omega
 have v1:(v:Int) ≤ 2147483647:=by omega
 have zr:=fun W:World => rreadnum_c s 2147483647 W (by omega) (by decide) hr
 simp only [Int.cast_ofNat_Int] at zr
 clear hr hv
 go_enter Tryz.func91,Tryz.ntmps91
 go_wp2_with (first | (go_at_call 92; (with_reducible refine (zr _).mono ?_); rintro e wN ⟨rfl,gN⟩))
 go_ret2
 exact ⟨rfl,gN⟩
theorem word_is {x:List Int} (h:wfK ksArg x):∃ k:Nat,x = [(k:Int)] ∧ k < 18446744073709551616 ∧ cArg.ok x ∧ cArg.enc x = mkB (numB k):=by
 match x,h.1 with
 | [v],_ =>
   have q:=bnd_u64 (h.2 0 .u64 v rfl rfl)
   refine ⟨v.toNat,by rw [Int.toNat_of_nonneg q.1],by omega,⟨v,rfl,q.1,q.2⟩,rfl⟩
theorem words_ok {L:List (List Int)} (h:∀ x ∈ L,wfK ksArg x):∀ x ∈ L,cArg.ok x:=fun x hx => by obtain ⟨k,_,_,q,_⟩:=word_is (h x hx); exact q
theorem words_small {L:List (List Int)} (h:∀ x ∈ L,cArg.ok x) (n:Nat) (hn:L.length ≤ n):(bytsT (L.map cArg.enc)).length ≤ n * 10:=by
 have q:=bytsT_capped (L.map cArg.enc) 8 (fun s hs => by
  obtain ⟨x,hx,rfl⟩:=List.mem_map.1 hs
  exact cArg.small x (h x hx))
 rw [List.length_map] at q
 exact Nat.le_trans q (Nat.mul_le_mul_right _ hn)
theorem words_okT {L:List (List Int)} (h:∀ x ∈ L,cArg.ok x):okT (L.map cArg.enc) = 0:=okT_of _ fun s hs => by
 obtain ⟨x,hx,rfl⟩:=List.mem_map.1 hs
 exact Nat.le_trans (cArg.small x (h x hx)) (by decide)
theorem putWords_c (w:World) {A:Option Addr} {n cap:Nat} {L:List (List Int)} (hA:RowAt w A 1 (rowsK ksArg L)) (hn:L.length = n) (hn9:n < 1000000) (hL:∀ x ∈ L,wfK ksArg x) {T:ByteArray} {r:Nat} (hr:PutC (oneP lWords) (.one (.lst L)) T r) :
 Calls Tryz.prog 111 #[.slice A n cap] w fun e w' => e = .returned (.tuple #[.string T,.int .i64 (r:Int)]) ∧ Wider w w':=by
 have ok:=words_ok hL
 have eok:(oneP lWords).ok (.one (.lst L)) ↔ n ≤ 128 :=
  ⟨fun ⟨v,e1,l,e2,q,_⟩ => by injection e1 with e1; rw [← e1] at e2; injection e2 with e2; rw [← e2,hn] at q; exact q,fun q => ⟨_,rfl,L,rfl,by rw [hn]; exact q,ok⟩⟩
 by_cases c:n ≤ 128
 · obtain ⟨hT,rfl⟩ : encT (L.map cArg.enc) = T ∧ r = 0:=by
    rcases hr with ⟨_,e2,e3⟩ | ⟨q,_,_⟩
    · exact ⟨e2.symm,e3⟩
    · exact absurd (eok.2 c) q
   obtain ⟨i0,hi,hz0,hz1,hz2⟩:=info_parts infoStr
   have c1:¬ (128:Int) < (n:Int):=by omega
   have sm:=words_small ok n (by omega)
   have ot:=words_okT ok
   have HL:=Lib.hid hL
   have HN:=Lib.hid hn
   have HX:=Lib.hid (And.intro hT (And.intro sm ot))
   clear hr eok ok hL hn hT sm ot
   have H0:Own w w [rowT 9 1 (.slice none 0 0) 0 []]:=(Own.nil (Wider.refl w)).nils 9 1
   go_enter Tryz.func111,Tryz.ntmps111
   go_wp2
   go_loopw [4,12] (fun v i wr => ∃ j:Nat,j ≤ n ∧ i = .int .i64 (j:Int) ∧ ∃ B c,v = .slice B j c ∧ Own w wr [rowT 9 1 (.slice B j c) j (cellsS ((L.take j).map cArg.enc))]) (fun _ i _ => n - (intOf i).toNat)
   case atStart => exact ⟨0,by omega,by simp,none,0,rfl,H0⟩
   case round =>
    obtain ⟨j,hj,rfl,B,cc,rfl,H⟩:=hrel
    have HH:=Lib.hid H
    by_cases cj:j < n
    · have j0:(0:Int) ≤ (j:Int):=by omega
      have j1:(j:Int) < (n:Int):=by omega
      obtain ⟨x,hx⟩ : ∃ x,L[j]? = some x:=⟨L[j]'(by have:=HN.out; omega),List.getElem?_eq_getElem _⟩
      obtain ⟨k,rfl,hk,_,he⟩:=word_is (HL.out x (List.mem_of_getElem? hx))
      have hrow:(rowsK ksArg L)[j]? = some [.int .u64 (k:Int)]:=by unfold rowsK; rw [List.getElem?_map,hx]; rfl
      have hA1:=hA.on H.wider
      cases A with
      | none => exact absurd (hA1.none_ rfl) (by intro e; rw [e] at hrow; simp at hrow)
      | some A0 =>
        have hc:=(row_cell hA1 hrow).1 _ rfl
        rw [Nat.mul_one] at hc
        obtain ⟨s,hs⟩ : ∃ s,mkB (numB k) = s:=⟨_,rfl⟩
        have zn:=tnum_a k wr hk hs
        have SN:Hid (cellsS ((L.take j).map cArg.enc) ++ [.string s] = cellsS ((L.take (j + 1)).map cArg.enc)):=by show _ = _; rw [take_next L j _ hx,List.map_append,cellsS_append,← hs,← he]; rfl
        have S3:Hid (j + 1 ≤ maxLen):=by show _ ≤ maxLen; unfold maxLen; omega
        have S4:Hid ((j + 1) * 16 ≤ 140737488355328):=by show _ ≤ _; omega
        clear H hrow hA1 hx he hs
        go_wp2_with (first
         | (go_at_call 110; (with_reducible refine zn.mono ?_); rintro e w2 ⟨rfl,g2⟩; have H2:=(HH.out.quiet g2).quiet ((Wider.refl w2).alloc (.cells #[.string s] 9)); have SIDE:=lies1 w2 (.string s) 9 rfl; have H4:=Lib.hid H2; have SD:=Lib.hid SIDE; clear H2 SIDE)
         | (at_builtin; refine wpList_append_thing rfl (.tmp 16) (.tmp 19) 152 rfl 9 i0 (.string ⟨#[]⟩) 1 16 Tryz.underlying152 hi hz0 hz1 hz2 rfl (by decide) (.slice B j cc) j (cellsS ((L.take j).map cArg.enc)) rfl H4.out (some ⟨w2.heap.size,0,none⟩) 1 1 [.string s] rfl rfl (fun e => by cases e) (fun a e => by cases e; exact SD.out.1) SD.out.2 S3.out S4.out rfl SN.out ?_; intro B2 c2 w5 H5))
        go_roundw
        case rel => exact ⟨j + 1,by omega,by go_num,B2,c2,rfl,H5⟩
        case measure => simp [intOf]; omega
    · obtain rfl:j = n:=by omega
      have j1:¬ (j:Int) < (j:Int):=by omega
      rw [List.take_of_length_le (by have:=HN.out; omega)] at H
      have zl:=tlist_a B j cc (L.map cArg.enc) wr H.strs (by rw [List.length_map]; exact HN.out) hn9 (by have:=HX.out.2.1; omega) HX.out.1 HX.out.2.2
      have HG:=Lib.hid H.wider
      clear H HH
      go_wp2_with (first
       | (go_at_call 157; (with_reducible refine zl.mono ?_); rintro e w2 ⟨rfl,g2⟩))
      go_ret2
      exact ⟨rfl,HG.out.trans g2⟩
 · obtain ⟨rfl,rfl⟩ : T = ⟨#[]⟩ ∧ r = 3:=by
    rcases hr with ⟨q,_,_⟩ | ⟨_,e2,e3⟩
    · exact absurd (eok.1 q) c
    · exact ⟨e2,e3⟩
   have c1:(128:Int) < (n:Int):=by omega
   clear hr eok ok hL hn
   go_enter Tryz.func111,Tryz.ntmps111
   go_wp2
   go_ret2
   exact ⟨rfl,Wider.refl w⟩
theorem zM_size:zM.size = 52:=rfl
def zV (k:Nat):List ValN:=zeroG (csKind k)
theorem zM_rep (w:World):RepA w zM zV:=⟨rfl,zeroNode w,zeroField w,zeroTable w,zeroEntry w,zeroBlock w,zeroGroup w,zeroMeter w,zeroRegs w⟩
theorem build0 (w:World):(Instr.build 51 #[]).run Tryz.prog w = .ok (.agg zM) w:=run_build w _ #[] zM (by kernel_rfl)
end Go.Proofs.YtoopdhgmdjienaaGreatDoor
