/- OMath Own -/
import Derived.Test.YtoopdhgmdjienaaGreatDoorPkR01
namespace Go.Proofs.YtoopdhgmdjienaaGreatDoor
set_option linter.unusedVariables false
set_option maxHeartbeats 64000000
structure Cod (β:Type) where
 enc:β → ByteArray
 dec:ByteArray → Option β
 ok:β → Prop
 zero:β
 cap:Nat
 there:∀ v,ok v → dec (enc v) = some v
 back:∀ s v,dec s = some v → ok v ∧ enc v = s
 none_:dec ⟨#[]⟩ = some zero
 small:∀ v,ok v → (enc v).size ≤ cap
theorem empty_of (s:ByteArray) (h:s.size = 0):s = ⟨#[]⟩:=by
 apply ba_ext
 have:s.data.toList = []:=List.eq_nil_of_length_eq_zero (by rw [← size_data]; exact h)
 rw [this]
namespace Cod
variable {β:Type} (c:Cod β)
theorem ok_zero:c.ok c.zero:=(c.back _ _ c.none_).1
theorem enc_zero:c.enc c.zero = ⟨#[]⟩:=(c.back _ _ c.none_).2
theorem zero_of {v:β} (h:c.ok v) (k:(c.enc v).size = 0):v = c.zero:=by
 have e:=c.there v h
 rw [empty_of _ k,c.none_] at e
 injection e with e; exact e.symm
end Cod
section
variable {β:Type}
def attrsG:Nat → List (Cod β) → List β → List AtN
 | k,c :: cs,v :: vs => if (c.enc v).size = 0 then attrsG (k + 1) cs vs else ⟨k,c.enc v⟩ :: attrsG (k + 1) cs vs
 | _,_,_ => []
def okG:List (Cod β) → List β → Prop
 | [],[] => True
 | c :: cs,v :: vs => c.ok v ∧ okG cs vs
 | _,_ => False
def encG (cs:List (Cod β)) (vs:List β):ByteArray:=encA (attrsG 1 cs vs)
def zeroG (cs:List (Cod β)):List β:=cs.map Cod.zero
def codeAt (cs:List (Cod β)) (t:Nat):Option (Cod β):=if t = 0 then none else cs[t - 1]?
def stepG (cs:List (Cod β)) (vs:List β) (a:AtN):Option (List β):=match codeAt cs a.t with
 | none => none
 | some c => match c.dec a.v with
   | none => none
   | some v => some (vs.set (a.t - 1) v)
def readG (cs:List (Cod β)):List β → List AtN → Option (List β)
 | vs,[] => some vs
 | vs,a :: l => match stepG cs vs a with
   | none => none
   | some vs2 => readG cs vs2 l
theorem readG_append (cs:List (Cod β)):∀ (l m:List AtN) (vs:List β),readG cs vs (l ++ m) = (readG cs vs l).bind fun vs2 => readG cs vs2 m:=by
 intro l
 induction l with
 | nil => intro m vs; rfl
 | cons a l ih =>
   intro m vs
   simp only [List.cons_append,readG]
   cases stepG cs vs a with
   | none => rfl
   | some vs2 => exact ih m vs2
def decG (cs:List (Cod β)) (s:List UInt8):List β × Nat :=
 if (decA [] 0 s).2 = 0 then match readG cs (zeroG cs) (decA [] 0 s).1 with
  | some vs => (vs,0)
  | none => (zeroG cs,3)
 else (zeroG cs,(decA [] 0 s).2)
theorem okG_length:∀ (cs:List (Cod β)) (vs:List β),okG cs vs → vs.length = cs.length
 | [],[],_ => rfl
 | c :: cs,v :: vs,h => by simp [okG_length cs vs h.2]
 | [],_ :: _,h => h.elim
 | _ :: _,[],h => h.elim
theorem okG_zero:∀ cs:List (Cod β),okG cs (zeroG cs)
 | [] => trivial
 | c :: cs => ⟨c.ok_zero,okG_zero cs⟩
theorem attrsG_zero:∀ (cs:List (Cod β)) (k:Nat),attrsG k cs (zeroG cs) = []
 | [],_ => rfl
 | c :: cs,k => by
   show (if (c.enc c.zero).size = 0 then _ else _) = _
   rw [c.enc_zero,if_pos (show (⟨#[]⟩ : ByteArray).size = 0 from rfl)]
   exact attrsG_zero cs (k + 1)
theorem attrsG_t:∀ (cs:List (Cod β)) (vs:List β) (k:Nat),∀ a ∈ attrsG k cs vs,k ≤ a.t ∧ a.t < k + cs.length:=by
 intro cs
 induction cs with
 | nil => intro vs k a h; cases vs <;> simp [attrsG] at h
 | cons c cs ih =>
   intro vs k a h
   cases vs with
   | nil => simp [attrsG] at h
   | cons v vs =>
     simp only [attrsG] at h
     simp only [List.length_cons]
     split at h
     · have:=ih vs (k + 1) a h; omega
     · rcases List.mem_cons.1 h with rfl | h
       · dsimp only; omega
       · have:=ih vs (k + 1) a h; omega
theorem okA_attrsG:∀ (cs:List (Cod β)) (vs:List β) (k last:Nat),okG cs vs → (∀ c ∈ cs,c.cap ≤ 65535) → last < k → okA last (attrsG k cs vs) = 0:=by
 intro cs
 induction cs with
 | nil => intro vs k last h _ _; cases vs <;> rfl
 | cons c cs ih =>
   intro vs k last h hc hk
   cases vs with
   | nil => rfl
   | cons v vs =>
     simp only [attrsG]
     have c1:=c.small v h.1
     have c2:=hc c (.head _)
     split
     · exact ih vs (k + 1) last h.2 (fun x hx => hc x (.tail _ hx)) (by omega)
     · rename_i g
       show (if k ≤ last ∨ (c.enc v).size = 0 then 3 else if 65535 < (c.enc v).size then 5 else okA k _) = 0
       rw [if_neg (by omega),if_neg (by omega)]
       exact ih vs (k + 1) k h.2 (fun x hx => hc x (.tail _ hx)) (by omega)
theorem attrsG_size:∀ (cs:List (Cod β)) (vs:List β) (k:Nat),okG cs vs → (bytsA (attrsG k cs vs)).length ≤ (cs.map fun c => 3 + c.cap).sum:=by
 intro cs
 induction cs with
 | nil => intro vs k h; cases vs <;> simp [attrsG,bytsA]
 | cons c cs ih =>
   intro vs k h
   cases vs with
   | nil => exact h.elim
   | cons v vs =>
     simp only [attrsG,List.map_cons,List.sum_cons]
     have c1:=c.small v h.1
     have c2:=ih vs (k + 1) h.2
     split
     · omega
     · rw [bytsA_cons,List.length_append,bytA_length]; dsimp only; omega
theorem attrsG_set:∀ (cs:List (Cod β)) (vs:List β) (k i:Nat) (c:Cod β) (v:β),cs[i]? = some c → vs.length = cs.length → (∀ j,i ≤ j → vs[j]? = (zeroG cs)[j]?) → (c.enc v).size ≠ 0 →
 attrsG k cs (vs.set i v) = attrsG k cs vs ++ [⟨k + i,c.enc v⟩]:=by
 intro cs
 induction cs with
 | nil => intro vs k i c v h; simp at h
 | cons d cs ih =>
   intro vs k i c v h hl hz hv
   cases vs with
   | nil => simp at hl
   | cons u vs =>
     cases i with
     | zero =>
       obtain rfl:d = c:=by simpa using h
       have e:u :: vs = zeroG (d :: cs):=List.ext_getElem? fun j => hz j (Nat.zero_le _)
       have e1:u = d.zero:=by injection e
       have e2:vs = zeroG cs:=by injection e
       subst e1 e2
       simp only [List.set_cons_zero,attrsG]
       rw [if_neg hv,attrsG_zero,d.enc_zero,if_pos (show (⟨#[]⟩ : ByteArray).size = 0 from rfl),Nat.add_zero]
       rfl
     | succ i =>
       have h':cs[i]? = some c:=by simpa using h
       have q:=ih vs (k + 1) i c v h' (by simpa using hl) (fun j hj => by simpa [zeroG] using hz (j + 1) (by omega)) hv
       simp only [List.set_cons_succ,attrsG]
       have e:k + 1 + i = k + (i + 1):=by omega
       rw [e] at q
       split
       · rw [q]
       · rw [q]; rfl
theorem okG_at:∀ (cs:List (Cod β)) (vs:List β) (i:Nat) (c:Cod β) (v:β),okG cs vs → cs[i]? = some c → vs[i]? = some v → c.ok v:=by
 intro cs
 induction cs with
 | nil => intro vs i c v h hc; simp at hc
 | cons d cs ih =>
   intro vs i c v h hc hv
   cases vs with
   | nil => simp at hv
   | cons u vs =>
     cases i with
     | zero => simp at hc hv; subst hc hv; exact h.1
     | succ i => exact ih vs i c v h.2 (by simpa using hc) (by simpa using hv)
theorem okG_set:∀ (cs:List (Cod β)) (vs:List β) (i:Nat) (c:Cod β) (v:β),okG cs vs → cs[i]? = some c → c.ok v → okG cs (vs.set i v):=by
 intro cs
 induction cs with
 | nil => intro vs i c v h hc; simp at hc
 | cons d cs ih =>
   intro vs i c v h hc hv
   cases vs with
   | nil => exact h.elim
   | cons u vs =>
     cases i with
     | zero => simp at hc; subst hc; exact ⟨hv,h.2⟩
     | succ i => exact ⟨h.1,ih vs i c v h.2 (by simpa using hc) hv⟩
theorem readG_attrs (cs:List (Cod β)) (vs:List β) (h:okG cs vs):readG cs (zeroG cs) (attrsG 1 cs vs) = some vs:=by
 have key:∀ (post pre:List (Cod β)) (us ws:List β),us.length = pre.length → okG post ws → readG (pre ++ post) (us ++ zeroG post) (attrsG (pre.length + 1) post ws) = some (us ++ ws):=by
  intro post
  induction post with
  | nil =>
    intro pre us ws hl hk
    cases ws with
    | nil => simp [attrsG,readG,zeroG]
    | cons => exact hk.elim
  | cons c cs ih =>
    intro pre us ws hl hk
    cases ws with
    | nil => exact hk.elim
    | cons v vs =>
      have ih':=ih (pre ++ [c]) (us ++ [v]) vs (by simp [hl]) hk.2
      simp only [List.length_append,List.length_singleton,List.append_assoc,List.singleton_append] at ih'
      simp only [attrsG]
      split
      · rename_i g
        have e:=c.zero_of hk.1 g
        rw [← ih',e]; rfl
      · rename_i g
        have hc:codeAt (pre ++ c :: cs) (pre.length + 1) = some c:=by unfold codeAt; simp
        have hs:stepG (pre ++ c :: cs) (us ++ zeroG (c :: cs)) ⟨pre.length + 1,c.enc v⟩ = some (us ++ v :: zeroG cs):=by
         unfold stepG
         rw [hc]
         simp only
         rw [c.there v hk.1]
         simp only [Nat.add_sub_cancel,Option.some.injEq]
         rw [← hl,List.set_append_right _ _ (Nat.le_refl _),Nat.sub_self]
         rfl
        simp only [readG,hs]
        exact ih'
 exact key cs [] [] vs rfl h
theorem readG_inv (cs:List (Cod β)) (l:List AtN):∀ vs,okA 0 l = 0 → readG cs (zeroG cs) l = some vs → okG cs vs ∧ attrsG 1 cs vs = l ∧ ∀ j,lastA 0 l ≤ j → vs[j]? = (zeroG cs)[j]? :=by
 induction l using rev_ind with
 | nil =>
   intro vs _ h
   simp only [readG,Option.some.injEq] at h
   subst h
   exact ⟨okG_zero cs,attrsG_zero cs 1,fun _ _ => rfl⟩
 | snoc l a ih =>
   intro vs hk h
   rw [okA_append] at hk
   have k0:okA 0 l = 0:=by
    by_cases q:okA 0 l = 0
    · exact q
    · rw [if_neg q] at hk; exact hk
   rw [if_pos k0] at hk
   have k1:lastA 0 l < a.t ∧ a.v.size ≠ 0:=by
    have hk2:(if a.t ≤ lastA 0 l ∨ a.v.size = 0 then 3 else if 65535 < a.v.size then 5 else okA a.t []) = 0:=hk
    split at hk2
    · cases hk2
    · rename_i q
      constructor
      · rcases Nat.lt_or_ge (lastA 0 l) a.t with q2 | q2
        · exact q2
        · exact absurd (.inl q2) q
      · exact fun q2 => q (.inr q2)
   rw [readG_append] at h
   cases h1:readG cs (zeroG cs) l with
   | none => rw [h1] at h; cases h
   | some us =>
     rw [h1] at h
     obtain ⟨i1,i2,i3⟩:=ih us k0 h1
     simp only [Option.bind_some,readG] at h
     cases h2:stepG cs us a with
     | none => rw [h2] at h; cases h
     | some ws =>
       rw [h2] at h
       simp only [Option.some.injEq] at h
       subst h
       unfold stepG at h2
       cases h3:codeAt cs a.t with
       | none => rw [h3] at h2; cases h2
       | some c =>
         rw [h3] at h2
         simp only at h2
         cases h4:c.dec a.v with
         | none => rw [h4] at h2; cases h2
         | some v =>
           rw [h4] at h2
           simp only [Option.some.injEq] at h2
           subst h2
           have h5:=c.back _ _ h4
           have hc:cs[a.t - 1]? = some c:=by
            unfold codeAt at h3
            split at h3
            · cases h3
            · exact h3
           have ul:=okG_length cs us i1
           refine ⟨okG_set cs us _ c v i1 hc h5.1,?_,fun j hj => ?_⟩
           · rw [attrsG_set cs us 1 (a.t - 1) c v hc ul (fun j hj => i3 j (by omega)) (by rw [h5.2]; exact k1.2),i2,h5.2]
             have e:1 + (a.t - 1) = a.t:=by omega
             rw [e]
           · rw [lastA_snoc] at hj
             rw [List.getElem?_set_ne (by omega)]
             exact i3 j (by omega)
theorem encG_bytes (cs:List (Cod β)) (vs:List β) (h:okG cs vs) (hc:∀ c ∈ cs,c.cap ≤ 65535):encG cs vs = mkB (bytsA (attrsG 1 cs vs)):=by
 unfold encG encA
 rw [if_pos (okA_attrsG cs vs 1 0 h hc (by omega))]
theorem decG_enc (cs:List (Cod β)) (vs:List β) (h:okG cs vs) (hc:∀ c ∈ cs,c.cap ≤ 65535) (hn:cs.length < 255):decG cs (encG cs vs).data.toList = (vs,0):=by
 have e:decA [] 0 (encG cs vs).data.toList = (attrsG 1 cs vs,0):=by
  rw [encG_bytes cs vs h hc,mkB_data]
  have q:=decA_enc (attrsG 1 cs vs) [] 0 [] (okA_attrsG cs vs 1 0 h hc (by omega)) (fun a ha => by have:=attrsG_t cs vs 1 a ha; omega)
  rw [List.append_nil,decA_nil] at q
  exact q
 unfold decG
 rw [e]
 simp only [if_true,readG_attrs cs vs h]
theorem decG_inv (cs:List (Cod β)) (s:ByteArray) (vs:List β) (h:decG cs s.data.toList = (vs,0)):okG cs vs ∧ encG cs vs = s:=by
 unfold decG at h
 split at h
 · rename_i c0
   obtain ⟨m,hm⟩ : ∃ m,decA [] 0 s.data.toList = (m,0):=⟨(decA [] 0 s.data.toList).1,Prod.ext rfl c0⟩
   obtain ⟨l,e1,e2,e3,e4⟩:=decA_inv _ s.data.toList rfl [] 0 m hm
   rw [hm] at h
   rw [List.nil_append] at e1
   subst e1
   cases hr:readG cs (zeroG cs) m with
   | none => rw [hr] at h; simp at h
   | some us =>
     rw [hr] at h
     simp only [Prod.mk.injEq,and_true] at h
     subst h
     obtain ⟨i1,i2,_⟩:=readG_inv cs m us e3 hr
     refine ⟨i1,?_⟩
     unfold encG encA
     rw [i2,if_pos e3,← e2,mkB_of]
 · rename_i c0
   injection h with _ h2
   exact absurd h2 c0
theorem decA_codes (s:List UInt8):(decA [] 0 s).2 = 0 ∨ (decA [] 0 s).2 = 3 ∨ (decA [] 0 s).2 = 4:=by
 have key:∀ (n:Nat) (s:List UInt8),s.length = n → ∀ acc last,(decA acc last s).2 = 0 ∨ (decA acc last s).2 = 3 ∨ (decA acc last s).2 = 4:=by
  intro n
  induction n using Nat.strongRecOn with
  | ind n ih =>
    intro s hs acc last
    by_cases c:s.length < 3
    · by_cases z:s = []
      · subst z; rw [decA_nil]; exact .inl rfl
      · rw [decA_short _ _ _ z c]; exact .inr (.inr rfl)
    · obtain ⟨t,a,b,r,rfl⟩:=three s (by omega)
      rw [decA_some]
      split
      · exact .inr (.inl rfl)
      · split
        · exact .inr (.inr rfl)
        · exact ih _ (by subst hs; simp; omega) _ rfl _ _
 exact key _ s rfl _ _
theorem decG_bad (cs:List (Cod β)) (s:List UInt8):(decG cs s).2 = 0 ∨ ((decG cs s).1 = zeroG cs ∧ ((decG cs s).2 = 3 ∨ (decG cs s).2 = 4)):=by
 unfold decG
 split
 · cases readG cs (zeroG cs) (decA [] 0 s).1 with
   | some vs => exact .inl rfl
   | none => exact .inr ⟨rfl,.inl rfl⟩
 · rename_i c
   rcases decA_codes s with h | h | h
   · exact absurd h c
   · exact .inr ⟨rfl,.inl h⟩
   · exact .inr ⟨rfl,.inr h⟩
theorem encG_zero (cs:List (Cod β)):encG cs (zeroG cs) = ⟨#[]⟩:=by
 unfold encG; rw [attrsG_zero]; rfl
end
theorem rnum_numB (n top:Nat) (h:n ≤ top) (ht:top < 18446744073709551616):rnumN (numB n) top = (n,0):=by
 have l:=numB_len n (by omega)
 have hh:(numB n).head? ≠ some 0:=by
  by_cases z:n = 0
  · subst z; rw [numB_0]; simp
  · obtain ⟨b,m,e,hb⟩:=numB_head n z
    rw [e]; simpa using hb
 unfold rnumN
 rw [if_neg (by rintro (q | q); omega; exact hh q),readB_numB,if_neg (by omega)]
theorem rnum_inv (s:List UInt8) (top n:Nat) (h:rnumN s top = (n,0)):n ≤ top ∧ numB n = s:=by
 unfold rnumN at h
 split at h
 · simp at h
 · rename_i q
   split at h
   · simp at h
   · rename_i q2
     obtain rfl:readB s = n:=by injection h
     refine ⟨by omega,numB_readB s fun b m e hb => q (.inr ?_)⟩
     rw [e,hb]; rfl
theorem rnum_codes (s:List UInt8) (top:Nat):(rnumN s top).2 = 0 ∨ rnumN s top = (0,3):=by
 unfold rnumN
 split
 · exact .inr rfl
 · split
   · exact .inr rfl
   · exact .inl rfl
def numC (top:Nat) (ht:top < 18446744073709551616):Cod Int where
 enc n:=mkB (numB n.toNat)
 dec s:=if (rnumN s.data.toList top).2 = 0 then some ((rnumN s.data.toList top).1:Int) else none
 ok n:=0 ≤ n ∧ n ≤ (top:Int)
 zero:=0
 cap:=8
 there v h:=by
  rw [mkB_data,rnum_numB v.toNat top (by omega) ht]
  simp only [if_true]
  rw [Int.toNat_of_nonneg h.1]
 back s v h:=by
  split at h
  · rename_i q
    injection h with h
    obtain ⟨h1,h2⟩:=rnum_inv s.data.toList top (rnumN s.data.toList top).1 (Prod.ext rfl q)
    subst h
    refine ⟨⟨by omega,by omega⟩,?_⟩
    rw [Int.toNat_natCast,h2,mkB_of]
  · cases h
 none_:=rfl
 small v h:=by rw [mkB_size]; exact numB_len _ (by omega)
def mapD {α:Type} (f:ByteArray → Option α):List ByteArray → Option (List α)
 | [] => some []
 | s :: l => match f s with
   | none => none
   | some x => match mapD f l with
     | none => none
     | some r => some (x :: r)
theorem mapD_append {α:Type} (f:ByteArray → Option α):∀ (l m:List ByteArray),mapD f (l ++ m) = (mapD f l).bind fun x => (mapD f m).map fun y => x ++ y:=by
 intro l
 induction l with
 | nil => intro m; simp only [List.nil_append,mapD,Option.bind_some]; cases mapD f m <;> rfl
 | cons s l ih =>
   intro m
   simp only [List.cons_append,mapD]
   cases f s with
   | none => rfl
   | some x =>
     simp only [ih m]
     cases mapD f l with
     | none => rfl
     | some r => cases mapD f m <;> rfl
theorem mapD_there {α:Type} (c:Cod α):∀ (l:List α),(∀ x ∈ l,c.ok x) → mapD c.dec (l.map c.enc) = some l
 | [],_ => rfl
 | x :: l,h => by
   simp only [List.map_cons,mapD]
   rw [c.there x (h x (.head _)),mapD_there c l (fun y hy => h y (.tail _ hy))]
theorem mapD_back {α:Type} (c:Cod α):∀ (s:List ByteArray) (l:List α),mapD c.dec s = some l → (∀ x ∈ l,c.ok x) ∧ l.map c.enc = s
 | [],l,h => by
   simp only [mapD,Option.some.injEq] at h
   subst h; exact ⟨(fun x m => by cases m),rfl⟩
 | a :: s,l,h => by
   simp only [mapD] at h
   cases h1:c.dec a with
   | none => rw [h1] at h; cases h
   | some x =>
     rw [h1] at h
     cases h2:mapD c.dec s with
     | none => rw [h2] at h; cases h
     | some r =>
       rw [h2] at h
       simp only [Option.some.injEq] at h
       subst h
       obtain ⟨i1,i2⟩:=mapD_back c s r h2
       obtain ⟨b1,b2⟩:=c.back _ _ h1
       refine ⟨fun y hy => ?_,by rw [List.map_cons,b2,i2]⟩
       rcases List.mem_cons.1 hy with rfl | hy
       · exact b1
       · exact i1 y hy
theorem mapD_length {α:Type} (f:ByteArray → Option α):∀ (s:List ByteArray) (l:List α),mapD f s = some l → l.length = s.length
 | [],l,h => by simp only [mapD,Option.some.injEq] at h; subst h; rfl
 | a :: s,l,h => by
   simp only [mapD] at h
   cases h1:f a with
   | none => rw [h1] at h; cases h
   | some x =>
     rw [h1] at h
     cases h2:mapD f s with
     | none => rw [h2] at h; cases h
     | some r =>
       rw [h2] at h
       simp only [Option.some.injEq] at h
       subst h
       simp [mapD_length f s r h2]
inductive ValN
 | num (n:Int)
 | txt (s:ByteArray)
 | lst (l:List (List Int))
def numV (top:Nat) (ht:top < 18446744073709551616):Cod ValN where
 enc v:=match v with
  | .num n => (numC top ht).enc n
  | _ => ⟨#[]⟩
 dec s:=((numC top ht).dec s).map .num
 ok v:=∃ n,v = .num n ∧ (numC top ht).ok n
 zero:=.num 0
 cap:=8
 there v h:=by obtain ⟨n,rfl,h⟩:=h; simp only [(numC top ht).there n h,Option.map_some]
 back s v h:=by
  cases e:(numC top ht).dec s with
  | none => rw [e] at h; cases h
  | some n =>
    rw [e] at h
    simp only [Option.map_some,Option.some.injEq] at h
    subst h
    obtain ⟨h1,h2⟩:=(numC top ht).back s n e
    exact ⟨⟨n,rfl,h1⟩,h2⟩
 none_:=rfl
 small v h:=by obtain ⟨n,rfl,h⟩:=h; exact (numC top ht).small n h
def txtV (most:Nat):Cod ValN where
 enc v:=match v with
  | .txt s => s
  | _ => ⟨#[]⟩
 dec s:=if s.size ≤ most then some (.txt s) else none
 ok v:=∃ s,v = .txt s ∧ s.size ≤ most
 zero:=.txt ⟨#[]⟩
 cap:=most
 there v h:=by obtain ⟨s,rfl,h⟩:=h; simp only [if_pos h]
 back s v h:=by
  split at h
  · rename_i q
    injection h with h
    subst h
    exact ⟨⟨s,rfl,q⟩,rfl⟩
  · cases h
 none_:=by simp [ByteArray.size]
 small v h:=by obtain ⟨s,rfl,h⟩:=h; exact h
theorem bytsT_capped:∀ (l:List ByteArray) (k:Nat),(∀ s ∈ l,s.size ≤ k) → (bytsT l).length ≤ l.length * (2 + k)
 | [],_,_ => by simp [bytsT]
 | s :: l,k,h => by
   rw [bytsT_cons,List.length_append,bytT_length,List.length_cons,Nat.add_mul]
   have:=bytsT_capped l k (fun x hx => h x (.tail _ hx))
   have:=h s (.head _)
   omega
theorem okT_of:∀ (l:List ByteArray),(∀ s ∈ l,s.size ≤ 65535) → okT l = 0
 | [],_ => rfl
 | s :: l,h => by
   show (if 65535 < s.size then 5 else okT l) = 0
   rw [if_neg (by have:=h s (.head _); omega)]
   exact okT_of l fun x hx => h x (.tail _ hx)
def lstV (most:Nat) (it:Cod (List Int)) (hm:most * (2 + it.cap) ≤ 65535) (hi:it.cap ≤ 65535):Cod ValN where
 enc v:=match v with
  | .lst l => encT (l.map it.enc)
  | _ => ⟨#[]⟩
 dec s:=if (decT [] most s.data.toList).2 = 0 then (mapD it.dec (decT [] most s.data.toList).1).map .lst else none
 ok v:=∃ l,v = .lst l ∧ l.length ≤ most ∧ ∀ x ∈ l,it.ok x
 zero:=.lst []
 cap:=65535
 there v h:=by
  obtain ⟨l,rfl,h1,h2⟩:=h
  have k0:okT (l.map it.enc) = 0:=okT_of _ fun s hs => by
   obtain ⟨x,hx,rfl⟩:=List.mem_map.1 hs
   exact Nat.le_trans (it.small x (h2 x hx)) hi
  have e:decT [] most (encT (l.map it.enc)).data.toList = (l.map it.enc,0):=by
   unfold encT
   rw [if_pos k0,mkB_data]
   have q:=decT_enc (l.map it.enc) [] most [] k0 (by simp only [List.length_nil,List.length_map]; omega)
   rw [List.append_nil,decT_nil] at q
   exact q
  rw [e]
  simp only [if_true,mapD_there it l h2,Option.map_some]
 back s v h:=by
  split at h
  · rename_i c0
    obtain ⟨m,hm2⟩ : ∃ m,decT [] most s.data.toList = (m,0):=⟨(decT [] most s.data.toList).1,Prod.ext rfl c0⟩
    obtain ⟨l,e1,e2,e3,e4⟩:=decT_inv _ s.data.toList rfl [] most m hm2
    rw [List.nil_append] at e1
    subst e1
    rw [hm2] at h
    simp only at h
    cases e5:mapD it.dec m with
    | none => rw [e5] at h; cases h
    | some r =>
      rw [e5] at h
      simp only [Option.map_some,Option.some.injEq] at h
      subst h
      obtain ⟨b1,b2⟩:=mapD_back it m r e5
      have hl:=mapD_length _ m r e5
      refine ⟨⟨r,rfl,?_,b1⟩,?_⟩
      · rcases e4 with e4 | e4
        · rw [e4] at hl; simp only [List.length_nil] at hl; omega
        · have e6:(m.length:Int) ≤ (most:Int):=e4
          have e7:r.length = m.length:=hl
          omega
      · show encT (r.map it.enc) = s
        rw [b2]; unfold encT; rw [if_pos e3,← e2,mkB_of]
  · cases h
 none_:=by
  have e:decT [] most (⟨#[]⟩ : ByteArray).data.toList = ([],0):=decT_nil [] most
  rw [e]; rfl
 small v h:=by
  obtain ⟨l,rfl,h1,h2⟩:=h
  show (encT (l.map it.enc)).size ≤ 65535
  unfold encT
  split
  · rw [mkB_size]
    have:=bytsT_capped (l.map it.enc) it.cap (fun s hs => by
     obtain ⟨x,hx,rfl⟩:=List.mem_map.1 hs
     exact it.small x (h2 x hx))
    rw [List.length_map] at this
    have:=Nat.mul_le_mul_right (2 + it.cap) h1
    omega
  · show 0 ≤ 65535; omega
def oneI (top:Nat) (ht:top < 18446744073709551616):Cod (List Int) where
 enc v:=match v with
  | [n] => (numC top ht).enc n
  | _ => ⟨#[]⟩
 dec s:=((numC top ht).dec s).map fun n => [n]
 ok v:=∃ n,v = [n] ∧ (numC top ht).ok n
 zero:=[0]
 cap:=8
 there v h:=by obtain ⟨n,rfl,h⟩:=h; simp only [(numC top ht).there n h,Option.map_some]
 back s v h:=by
  cases e:(numC top ht).dec s with
  | none => rw [e] at h; cases h
  | some n =>
    rw [e] at h
    simp only [Option.map_some,Option.some.injEq] at h
    subst h
    obtain ⟨h1,h2⟩:=(numC top ht).back s n e
    exact ⟨⟨n,rfl,h1⟩,h2⟩
 none_:=rfl
 small v h:=by obtain ⟨n,rfl,h⟩:=h; exact (numC top ht).small n h
def tupI (cs:List (Cod Int)) (hc:∀ c ∈ cs,c.cap ≤ 65535) (hn:cs.length < 255):Cod (List Int) where
 enc v:=encG cs v
 dec s:=if (decG cs s.data.toList).2 = 0 then some (decG cs s.data.toList).1 else none
 ok v:=okG cs v
 zero:=zeroG cs
 cap:=(cs.map fun c => 3 + c.cap).sum
 there v h:=by rw [decG_enc cs v h hc hn]; rfl
 back s v h:=by
  split at h
  · rename_i c0
    injection h with h
    subst h
    exact decG_inv cs s _ (Prod.ext rfl c0)
  · cases h
 none_:=by
  have e:=decG_enc cs (zeroG cs) (okG_zero cs) hc hn
  rw [encG_zero] at e
  rw [e]; rfl
 small v h:=by rw [encG_bytes cs v h hc,mkB_size]; exact attrsG_size cs v 1 h
abbrev topI:Nat:=2147483647
abbrev topL:Nat:=9223372036854775807
abbrev topU:Nat:=18446744073709551615
def nI:Cod ValN:=numV topI (by decide)
def nB:Cod ValN:=numV 255 (by decide)
def nL:Cod ValN:=numV topL (by decide)
def nU:Cod ValN:=numV topU (by decide)
def nT:Cod ValN:=numV 1 (by decide)
def tK:Cod ValN:=txtV 32
def iI:Cod Int:=numC topI (by decide)
def iB:Cod Int:=numC 255 (by decide)
def iU:Cod Int:=numC topU (by decide)
def iW:Cod Int:=numC 4294967295 (by decide)
def csArm:List (Cod Int):=[iW,iI]
def csInstr:List (Cod Int):=[iB,iI,iB,iU,iB,iU,iI]
def csBucket:List (Cod Int):=[iU,iI]
def cArm:Cod (List Int):=tupI csArm (by decide) (by decide)
def cInstr:Cod (List Int):=tupI csInstr (by decide) (by decide)
def cBucket:Cod (List Int):=tupI csBucket (by decide) (by decide)
def cKey:Cod (List Int):=oneI topI (by decide)
def cArg:Cod (List Int):=oneI topU (by decide)
def lArms:Cod ValN:=lstV 32 cArm (by decide) (by decide)
def lKeys:Cod ValN:=lstV 4 cKey (by decide) (by decide)
def lArgs:Cod ValN:=lstV 4 cArg (by decide) (by decide)
def lCode:Cod ValN:=lstV 32 cInstr (by decide) (by decide)
def lBuckets:Cod ValN:=lstV 16 cBucket (by decide) (by decide)
def csNode:List (Cod ValN):=[nI,nI,nI,nI,nI,nI,nI,nI,lArms]
def csField:List (Cod ValN):=[nI,nB,nI,nI,nI]
def csTable:List (Cod ValN):=[nI,nB,lKeys,nI,nI]
def csEntry:List (Cod ValN):=[nI,tK,tK,nI,nI,nI,lArgs,nL,nL,nU,nT]
def csBlock:List (Cod ValN):=[nI,lCode]
def csGroup:List (Cod ValN):=[nI,nB,nI,lBuckets]
def csMeter:List (Cod ValN):=[nI,nL,nL]
def csRegs:List (Cod ValN):=[nI,nI]
def csKind (k:Nat):List (Cod ValN):=match k with
 | 0 => csNode
 | 1 => csField
 | 2 => csTable
 | 3 => csEntry
 | 4 => csBlock
 | 5 => csGroup
 | 6 => csMeter
 | _ => csRegs
theorem csKind_cap (k:Nat):∀ c ∈ csKind k,c.cap ≤ 65535:=by
 unfold csKind
 split <;> decide
theorem csKind_length (k:Nat):(csKind k).length < 12:=by
 unfold csKind
 split <;> decide
end Go.Proofs.YtoopdhgmdjienaaGreatDoor
namespace Go.Proofs.YtoopdhgmdjienaaGreatDoor
set_option linter.unusedVariables false
open Go.RowKit
set_option maxHeartbeats 64000000
structure WBut (F:List Nat) (W w:World):Prop where
 os:w.os = W.os
 out:w.output = W.output
 size:W.heap.size ≤ w.heap.size
 heap:∀ i,i < W.heap.size → i ∉ F → w.heap[i]? = W.heap[i]?
theorem Wider.but {W w:World} (h:Wider W w) (F:List Nat):WBut F W w:=⟨h.1.1,h.1.2.1,h.2,fun i hi _ => wheap h hi⟩
theorem WBut.trans {F G:List Nat} {a b c:World} (h:WBut F a b) (k:WBut G b c) (hs:∀ i ∈ G,i ∈ F ∨ a.heap.size ≤ i):WBut F a c :=
 ⟨k.os.trans h.os,k.out.trans h.out,Nat.le_trans h.size k.size,fun i hi hF => by
  rw [k.heap i (Nat.lt_of_lt_of_le hi h.size) (fun m => by rcases hs i m with m | m; exact hF m; omega),h.heap i hi hF]⟩
theorem WBut.thenW {F:List Nat} {a b c:World} (h:WBut F a b) (k:Wider b c):WBut F a c:=h.trans (k.but F) (fun i m => .inl m)
theorem wider_but {F:List Nat} {a b c:World} (h:Wider a b) (k:WBut F b c):WBut F a c:=(h.but F).trans k (fun i m => .inl m)
theorem wider_of {W w:World} (ho:w.os = W.os) (hu:w.output = W.output) (hz:W.heap.size ≤ w.heap.size) (hh:∀ i,i < W.heap.size → w.heap[i]? = W.heap[i]?):Wider W w:=by
 refine ⟨⟨ho,hu,fun i hi => ?_⟩,hz⟩
 rw [hh i hi]
 cases W.heap[i]? with
 | none => rfl
 | some o =>
   cases o with
   | cells c t fr => exact ⟨rfl,rfl,rfl,fun _ _ => rfl⟩
   | map es cl => exact .inr ⟨rfl,rfl⟩
   | _ => rfl
theorem WBut.wider {F:List Nat} {V W w:World} (g:Wider V W) (h:WBut F W w) (hs:∀ i ∈ F,V.heap.size ≤ i):Wider V w :=
 wider_of (h.os.trans g.1.1) (h.out.trans g.1.2.1) (Nat.le_trans g.2 h.size) fun i hi => by
  rw [h.heap i (Nat.lt_of_lt_of_le hi g.2) (fun m => by have:=hs i m; omega),wheap g hi]
theorem cell_heap {W w:World} {a:Addr} (h:w.heap[a.block]? = W.heap[a.block]?):w.cell? a = W.cell? a:=by unfold World.cell?; rw [h]
theorem frozen_heap {W w:World} {a:Addr} (h:w.heap[a.block]? = W.heap[a.block]?):w.frozen? a = W.frozen? a:=by unfold World.frozen?; rw [h]
theorem setCell_but (W:World) (a:Addr) (v:Value):WBut [a.block] W (W.setCell a v) where
 os:=rfl
 out:=rfl
 size:=by simp [World.setCell]
 heap i hi hF:=by
  simp only [World.setCell,Array.getElem?_modify]
  rw [if_neg (fun e => hF (by rw [e]; simp))]
abbrev Thing:=List Nat × (World → Prop)
def Thing.Stable (r:Thing):Prop:=∀ W w,r.2 W → (∀ i ∈ r.1,w.heap[i]? = W.heap[i]?) → r.2 w
structure Own (V w:World) (L:List Thing):Prop where
 holds:∀ r ∈ L,r.2 w
 new:∀ r ∈ L,∀ i ∈ r.1,V.heap.size ≤ i ∧ i < w.heap.size
 apart:L.Pairwise fun r q => ∀ i ∈ r.1,i ∉ q.1
 stable:∀ r ∈ L,r.Stable
 wider:Wider V w
theorem Own.nil {V w:World} (h:Wider V w):Own V w []:=⟨by simp,by simp,.nil,by simp,h⟩
theorem Own.quiet {V W w:World} {L:List Thing} (h:Own V W L) (g:Wider W w):Own V w L where
 holds r m:=h.stable r m W w (h.holds r m) fun i hi => wheap g (h.new r m i hi).2
 new r m i hi:=⟨(h.new r m i hi).1,Nat.lt_of_lt_of_le (h.new r m i hi).2 g.2⟩
 apart:=h.apart
 stable:=h.stable
 wider:=h.wider.trans g
theorem Own.drop {V w:World} {r:Thing} {L:List Thing} (h:Own V w (r :: L)):Own V w L :=
 ⟨fun q m => h.holds q (.tail _ m),fun q m => h.new q (.tail _ m),(List.pairwise_cons.1 h.apart).2,fun q m => h.stable q (.tail _ m),h.wider⟩
theorem Own.head {V w:World} {r:Thing} {L:List Thing} (h:Own V w (r :: L)):r.2 w:=h.holds r (.head _)
theorem Own.swap {V w:World} {r q:Thing} {L:List Thing} (h:Own V w (r :: q :: L)):Own V w (q :: r :: L) where
 holds x m:=h.holds x (by simp only [List.mem_cons] at m ⊢; rcases m with m | m | m <;> simp [m])
 new x m:=h.new x (by simp only [List.mem_cons] at m ⊢; rcases m with m | m | m <;> simp [m])
 apart:=by
  have k:=List.pairwise_cons.1 h.apart
  have k2:=List.pairwise_cons.1 k.2
  refine List.pairwise_cons.2 ⟨fun x m i hi hx => ?_,List.pairwise_cons.2 ⟨fun x m => k.1 x (.tail _ m),k2.2⟩⟩
  rcases List.mem_cons.1 m with rfl | m
  · exact k.1 q (.head _) i hx hi
  · exact k2.1 x m i hi hx
 stable x m:=h.stable x (by simp only [List.mem_cons] at m ⊢; rcases m with m | m | m <;> simp [m])
 wider:=h.wider
theorem Own.second {V w:World} {r q:Thing} {L:List Thing} (h:Own V w (r :: q :: L)):q.2 w:=h.drop.head
theorem Own.turn {V W w:World} {r s:Thing} {L:List Thing} (h:Own V W (r :: L)) (g:WBut r.1 W w) (hs:s.2 w) (hst:s.Stable) (hn:∀ i ∈ s.1,(i ∈ r.1 ∨ W.heap.size ≤ i) ∧ i < w.heap.size):Own V w (s :: L) where
 holds x m:=by
  rcases List.mem_cons.1 m with rfl | m
  · exact hs
  · refine h.stable x (.tail _ m) W w (h.holds x (.tail _ m)) fun i hi => g.heap i (h.new x (.tail _ m) i hi).2 fun hr => ?_
    exact (List.pairwise_cons.1 h.apart).1 x m i hr hi
 new x m i hi:=by
  rcases List.mem_cons.1 m with rfl | m
  · refine ⟨?_,(hn i hi).2⟩
    rcases (hn i hi).1 with k | k
    · exact (h.new r (.head _) i k).1
    · have:=h.wider.2; omega
  · exact ⟨(h.new x (.tail _ m) i hi).1,Nat.lt_of_lt_of_le (h.new x (.tail _ m) i hi).2 g.size⟩
 apart:=by
  have k:=List.pairwise_cons.1 h.apart
  refine List.pairwise_cons.2 ⟨fun x m i hi hx => ?_,k.2⟩
  rcases (hn i hi).1 with c | c
  · exact k.1 x m i c hx
  · have:=(h.new x (.tail _ m) i hx).2; omega
 stable x m:=by
  rcases List.mem_cons.1 m with rfl | m
  · exact hst
  · exact h.stable x (.tail _ m)
 wider:=g.wider h.wider fun i hi => (h.new r (.head _) i hi).1
theorem Own.make {V W w:World} {s:Thing} {L:List Thing} (h:Own V W L) (g:Wider W w) (hs:s.2 w) (hst:s.Stable) (hn:∀ i ∈ s.1,W.heap.size ≤ i ∧ i < w.heap.size):Own V w (s :: L) where
 holds x m:=by
  rcases List.mem_cons.1 m with rfl | m
  · exact hs
  · exact (h.quiet g).holds x m
 new x m i hi:=by
  rcases List.mem_cons.1 m with rfl | m
  · exact ⟨Nat.le_trans h.wider.2 (hn i hi).1,(hn i hi).2⟩
  · exact (h.quiet g).new x m i hi
 apart:=List.pairwise_cons.2 ⟨fun x m i hi hx => by have:=(h.new x m i hx).2; have:=(hn i hi).1; omega,h.apart⟩
 stable x m:=by
  rcases List.mem_cons.1 m with rfl | m
  · exact hst
  · exact h.stable x m
 wider:=h.wider.trans g
end Go.Proofs.YtoopdhgmdjienaaGreatDoor
