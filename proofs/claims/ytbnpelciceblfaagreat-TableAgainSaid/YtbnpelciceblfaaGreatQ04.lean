/- EUse JMath JMathB Math -/
import Derived.Test.YtbnpelciceblfaaGreatQ03
namespace Go.Proofs.YtbnpelciceblfaaGreat
set_option linter.unusedVariables false
open Tab
set_option maxHeartbeats 64000000
def homeE (k:ByteArray) (n:Nat):Nat:=slotN (mixH (hashH k.data.toList)).toNat n
theorem homeE_lt:Home homeE:=fun k n h => by
 have:=slot_lt (h:=(mixH (hashH k.data.toList)).toNat) (n:=n) (BitVec.isLt _) h
 unfold homeE
 omega
abbrev SlotsE:=Tab.Slots ByteArray Int
structure GoodE (L:SlotsE):Prop where
 inv:Inv homeE L
 half:2 * cnt L ≤ L.length
 pow:∃ j,L.length = 8 * 2 ^ j
 keys:∀ k v,Has L k v → k.size < 1000000
theorem GoodE.eight {L:SlotsE} (g:GoodE L):8 ≤ L.length:=by
 obtain ⟨j,e⟩:=g.pow
 have:=Nat.one_le_two_pow (n:=j)
 omega
theorem GoodE.new:GoodE (List.replicate 8 none) :=
 ⟨Inv.empty _,by rw [cnt_replicate]; omega,⟨0,rfl⟩,fun k v ⟨p,hp⟩ => by rw [tk_replicate] at hp; cases hp⟩
theorem GoodE.free {L:SlotsE} (g:GoodE L):∃ f,f < L.length ∧ tk L f = none:=cnt_free L (by have:=g.half; have:=g.eight; omega)
theorem GoodE.look {L:SlotsE} (g:GoodE L) (k:ByteArray):∃ p,IsLook homeE L k p:=by
 obtain ⟨f,hf,e⟩:=g.free
 exact look_exists homeE_lt k hf e
def GetE (L:SlotsE) (k:ByteArray) (v:Int) (is:Bool):Prop:=(is = true ∧ Has L k v) ∨ (is = false ∧ v = 0 ∧ ∀ u,¬ Has L k u)
theorem Tab.Has.one {L:SlotsE} (g:GoodE L) {k:ByteArray} {v u:Int} (h1:Has L k v) (h2:Has L k u):v = u:=by
 obtain ⟨p,hp⟩:=h1
 obtain ⟨q,hq⟩:=h2
 have:=g.inv.key homeE_lt hp hq
 subst this
 rw [hp] at hq
 simp only [Option.some.injEq,Prod.mk.injEq] at hq
 exact hq.2
inductive PutE (L:SlotsE) (k:ByteArray) (v:Int):Int → Bool → SlotsE → Prop
 | had {p:Nat} {u:Int} : tk L p = some (k,u) → PutE L k v u true (L.set p (some (k,v)))
 | room {p:Nat} : IsLook homeE L k p → tk L p = none → 2 * (cnt L + 1) ≤ L.length → PutE L k v 0 false (L.set p (some (k,v)))
 | grow {N:SlotsE} {q:Nat} : (∀ u,¬ Has L k u) → L.length < 2 * (cnt L + 1) → Moved homeE L (List.replicate (2 * L.length) none) N → IsLook homeE N k q → PutE L k v 0 false (N.set q (some (k,v)))
theorem has_set_new {L:SlotsE} {k:ByteArray} {v:Int} {p:Nat} (hp:p < L.length) (e:tk L p = none) (hn:∀ u,¬ Has L k u) (k2:ByteArray) (v2:Int) :
 Has (L.set p (some (k,v))) k2 v2 ↔ (k2 = k ∧ v2 = v) ∨ (k2 ≠ k ∧ Has L k2 v2):=by
 constructor
 · rintro ⟨q,hq⟩
   by_cases c:p = q
   · subst c
     rw [tk_set_self hp] at hq
     simp only [Option.some.injEq,Prod.mk.injEq] at hq
     exact .inl ⟨hq.1.symm,hq.2.symm⟩
   · rw [tk_set_ne c] at hq
     exact .inr ⟨fun x => by subst x; exact hn _ ⟨q,hq⟩,q,hq⟩
 · rintro (⟨rfl,rfl⟩ | ⟨ne,q,hq⟩)
   · exact ⟨p,tk_set_self hp⟩
   · have c:p ≠ q:=fun x => by subst x; rw [e] at hq; cases hq
     exact ⟨q,by rw [tk_set_ne c]; exact hq⟩
theorem has_set_again {L:SlotsE} (hi:Inv homeE L) {k:ByteArray} {v u:Int} {p:Nat} (e:tk L p = some (k,u)) (k2:ByteArray) (v2:Int) :
 Has (L.set p (some (k,v))) k2 v2 ↔ (k2 = k ∧ v2 = v) ∨ (k2 ≠ k ∧ Has L k2 v2):=by
 have hp:=tk_lt e
 constructor
 · rintro ⟨q,hq⟩
   by_cases c:p = q
   · subst c
     rw [tk_set_self hp] at hq
     simp only [Option.some.injEq,Prod.mk.injEq] at hq
     exact .inl ⟨hq.1.symm,hq.2.symm⟩
   · rw [tk_set_ne c] at hq
     exact .inr ⟨fun x => by subst x; exact c (hi.key homeE_lt e hq),q,hq⟩
 · rintro (⟨rfl,rfl⟩ | ⟨ne,q,hq⟩)
   · exact ⟨p,tk_set_self hp⟩
   · have c:p ≠ q:=fun x => by
      subst x
      rw [e] at hq
      simp only [Option.some.injEq,Prod.mk.injEq] at hq
      exact ne hq.1.symm
     exact ⟨q,by rw [tk_set_ne c]; exact hq⟩
theorem Tab.IsLook.absent {L:SlotsE} (hi:Inv homeE L) {k:ByteArray} {p:Nat} (h:IsLook homeE L k p) (e:tk L p = none) (u:Int):¬ Has L k u:=fun ⟨q,hq⟩ =>
 (hi.found homeE_lt h).1 e q u hq
theorem Tab.IsLook.none_of {L:SlotsE} {k:ByteArray} {p:Nat} (h:IsLook homeE L k p) (hn:∀ u,¬ Has L k u):tk L p = none:=by
 rcases h.here_ with e | ⟨v,e⟩
 · exact e
 · exact absurd ⟨p,e⟩ (hn v)
structure PutF (L:SlotsE) (k:ByteArray) (v was:Int) (had:Bool) (L':SlotsE):Prop where
 good:GoodE L'
 get:GetE L k was had
 has:∀ k2 v2,Has L' k2 v2 ↔ (k2 = k ∧ v2 = v) ∨ (k2 ≠ k ∧ Has L k2 v2)
 cnt:cnt L' = cnt L + (if had = true then 0 else 1)
 len:L'.length = L.length ∨ (had = false ∧ L.length < 2 * (Tab.cnt L + 1) ∧ L'.length = 2 * L.length)
 room:had = true → L'.length = L.length
 fits:2 * (Tab.cnt L + 1) ≤ L.length → L'.length = L.length
 more:had = false → L.length < 2 * (Tab.cnt L + 1) → L'.length = 2 * L.length
theorem PutE.facts {L L':SlotsE} {k:ByteArray} {v was:Int} {had:Bool} (g:GoodE L) (hk:k.size < 1000000) (h:PutE L k v was had L'):PutF L k v was had L':=by
 cases h with
 | @had p u e =>
   have hp:=tk_lt e
   have q:=cnt_set L p (some (k,v)) hp
   rw [e] at q
   simp only [one] at q
   have hs:=has_set_again g.inv (v:=v) e
   refine ⟨⟨g.inv.again e v,by rw [List.length_set]; have:=g.half; omega,by rw [List.length_set]; exact g.pow,fun k2 v2 h2 => ?_⟩,.inl ⟨rfl,p,e⟩,hs,by simp; omega,.inl (List.length_set ..),fun _ => List.length_set ..,fun _ => List.length_set ..,(fun h => by cases h)⟩
   rcases (hs k2 v2).1 h2 with ⟨rfl,_⟩ | ⟨_,h3⟩
   · exact hk
   · exact g.keys k2 v2 h3
 | @room p hl e hh =>
   have hp:=hl.lt
   have q:=cnt_set L p (some (k,v)) hp
   rw [e] at q
   simp only [one] at q
   have hn:=IsLook.absent g.inv hl e
   have hs:=has_set_new (v:=v) hp e hn
   refine ⟨⟨g.inv.put hl e v,by rw [List.length_set]; omega,by rw [List.length_set]; exact g.pow,fun k2 v2 h2 => ?_⟩,.inr ⟨rfl,rfl,hn⟩,hs,by simp; omega,.inl (List.length_set ..),fun _ => List.length_set ..,fun _ => List.length_set ..,fun _ h => by omega⟩
   rcases (hs k2 v2).1 h2 with ⟨rfl,_⟩ | ⟨_,h3⟩
   · exact hk
   · exact g.keys k2 v2 h3
 | @grow N p hn hh hm hl =>
   obtain ⟨r1,r2,r3,r4⟩:=grow_inv homeE_lt g.inv hm
   have hp:=hl.lt
   have hn2:∀ u,¬ Has N k u:=fun u h => hn u ((r4 k u).1 h)
   have e:=hl.none_of hn2
   have q:=cnt_set N p (some (k,v)) hp
   rw [e] at q
   simp only [one] at q
   have hs:∀ k2 v2,Has (N.set p (some (k,v))) k2 v2 ↔ (k2 = k ∧ v2 = v) ∨ (k2 ≠ k ∧ Has L k2 v2):=fun k2 v2 => by
    rw [has_set_new (v:=v) hp e hn2,r4]
   obtain ⟨j,hj⟩:=g.pow
   refine ⟨⟨r1.put hl e v,by rw [List.length_set]; have:=g.half; have:=g.eight; omega,⟨j + 1,by rw [List.length_set,r2,hj,Nat.pow_succ]; omega⟩,fun k2 v2 h2 => ?_⟩,.inr ⟨rfl,rfl,hn⟩,hs,by simp; omega,.inr ⟨rfl,hh,by rw [List.length_set,r2]⟩,(fun h => by cases h),(fun h => by omega),fun _ _ => by rw [List.length_set,r2]⟩
   rcases (hs k2 v2).1 h2 with ⟨rfl,_⟩ | ⟨_,h3⟩
   · exact hk
   · exact g.keys k2 v2 h3
inductive DelE (L:SlotsE) (k:ByteArray):Bool → SlotsE → Prop
 | no:(∀ u,¬ Has L k u) → DelE L k false L
 | yes {p:Nat} {u:Int} : tk L p = some (k,u) → DelE L k true (shut homeE L.length (L.set p none) p (nx L.length p))
structure DelF (L:SlotsE) (k:ByteArray) (b:Bool) (L':SlotsE):Prop where
 good:GoodE L'
 was:b = true ↔ ∃ u,Has L k u
 has:∀ k2 v2,Has L' k2 v2 ↔ Has L k2 v2 ∧ k2 ≠ k
 cnt:cnt L' + (if b = true then 1 else 0) = cnt L
 len:L'.length = L.length
theorem DelE.facts {L L':SlotsE} {k:ByteArray} {b:Bool} (g:GoodE L) (h:DelE L k b L'):DelF L k b L':=by
 cases h with
 | no hn =>
   exact ⟨g,⟨(fun h => by cases h),fun ⟨u,h⟩ => absurd h (hn u)⟩,fun k2 v2 => ⟨fun h => ⟨h,fun x => by subst x; exact hn _ h⟩,fun h => h.1⟩,by simp,rfl⟩
 | @yes p u e =>
   have hp:=tk_lt e
   obtain ⟨f,hf,hfe⟩:=g.free
   obtain ⟨r1,r2⟩:=del_inv homeE_lt g.inv e hf hfe (Nat.le_refl _)
   have c:=shut_cnt homeE L.length (L.set p none) p (nx L.length p) (by simpa using hp) (tk_set_self hp)
   have q:=cnt_set L p none hp
   rw [e] at q
   simp only [one] at q
   have l:=shut_length homeE L.length (L.set p none) p (nx L.length p)
   rw [List.length_set] at l
   exact ⟨⟨r1,by rw [c,l]; have:=g.half; omega,by rw [l]; exact g.pow,fun k2 v2 h => g.keys k2 v2 ((r2 k2 v2).1 h).1⟩,⟨fun _ => ⟨u,p,e⟩,fun _ => rfl⟩,r2,by rw [c,if_pos rfl]; omega,l⟩
theorem GoodE.get {L:SlotsE} (g:GoodE L) (k:ByteArray):∃ v is,GetE L k v is:=by
 by_cases h:∃ v,Has L k v
 · obtain ⟨v,h⟩:=h; exact ⟨v,true,.inl ⟨rfl,h⟩⟩
 · exact ⟨0,false,.inr ⟨rfl,rfl,fun u x => h ⟨u,x⟩⟩⟩
end Go.Proofs.YtbnpelciceblfaaGreat
namespace Go.Proofs.YtbnpelciceblfaaGreat
set_option linter.unusedVariables false
set_option maxHeartbeats 64000000
inductive Tr
 | nil
 | node (v:Option Int) (l r:Tr)
namespace Tr
def isNil:Tr → Bool
 | nil => true
 | node _ _ _ => false
def get:Tr → List Bool → Option Int
 | nil,_ => none
 | node v l r,[] => v
 | node v l r,b :: bs => if b then r.get bs else l.get bs
def put:Tr → List Bool → Int → Tr
 | nil,[],x => node (some x) nil nil
 | nil,b :: bs,x => if b then node none nil (put nil bs x) else node none (put nil bs x) nil
 | node _ l r,[],x => node (some x) l r
 | node v l r,b :: bs,x => if b then node v l (r.put bs x) else node v (l.put bs x) r
def mk:Option Int → Tr → Tr → Tr
 | none,nil,nil => nil
 | v,l,r => node v l r
def del:Tr → List Bool → Tr
 | nil,_ => nil
 | node _ l r,[] => mk none l r
 | node v l r,b :: bs => if b then mk v l (r.del bs) else mk v (l.del bs) r
theorem get_nil (bs:List Bool):nil.get bs = none:=by cases bs <;> rfl
theorem get_put_nil:∀ (bs cs:List Bool) (x:Int),(put nil bs x).get cs = if cs = bs then some x else none
 | [],[],x => rfl
 | [],c :: cs,x => by cases c <;> simp [put,get]
 | b :: bs,[],x => by cases b <;> simp [put,get]
 | b :: bs,c :: cs,x => by
   have ih:=get_put_nil bs cs x
   cases b <;> cases c <;> simp [put,get,ih]
theorem get_put:∀ (t:Tr) (bs cs:List Bool) (x:Int),(t.put bs x).get cs = if cs = bs then some x else t.get cs
 | nil,bs,cs,x => by rw [get_put_nil,get_nil]
 | node v l r,[],[],x => rfl
 | node v l r,[],c :: cs,x => by cases c <;> simp [put,get]
 | node v l r,b :: bs,[],x => by cases b <;> simp [put,get]
 | node v l r,b :: bs,c :: cs,x => by
   have il:=get_put l bs cs x
   have ir:=get_put r bs cs x
   cases b <;> cases c <;> simp [put,get,il,ir]
theorem get_mk (v:Option Int) (l r:Tr) (cs:List Bool):(mk v l r).get cs = (node v l r).get cs:=by
 cases v <;> cases l <;> cases r <;> first | rfl | (cases cs with
  | nil => rfl
  | cons c cs => cases c <;> simp [mk,get,get_nil])
theorem get_del:∀ (t:Tr) (bs cs:List Bool),(t.del bs).get cs = if cs = bs then none else t.get cs
 | nil,bs,cs => by simp [del,get_nil]
 | node v l r,[],[] => by simp [del,get_mk,get]
 | node v l r,[],c :: cs => by cases c <;> simp [del,get_mk,get]
 | node v l r,b :: bs,[] => by cases b <;> simp [del,get_mk,get]
 | node v l r,b :: bs,c :: cs => by
   have il:=get_del l bs cs
   have ir:=get_del r bs cs
   cases b <;> cases c <;> simp [del,get_mk,get,il,ir]
def all:Tr → List Bool → List (List Bool × Int)
 | nil,_ => []
 | node v l r,p => (match v with | none => [] | some x => [(p,x)]) ++ (l.all (p ++ [false]) ++ r.all (p ++ [true]))
theorem mem_all:∀ (t:Tr) (p q:List Bool) (x:Int),(q,x) ∈ t.all p ↔ ∃ bs,q = p ++ bs ∧ t.get bs = some x
 | nil,p,q,x => by simp [all,get_nil]
 | node v l r,p,q,x => by
   have il:=mem_all l (p ++ [false]) q x
   have ir:=mem_all r (p ++ [true]) q x
   simp only [all,List.mem_append,il,ir]
   constructor
   · rintro (h | ⟨bs,rfl,h⟩ | ⟨bs,rfl,h⟩)
     · cases v with
       | none => simp at h
       | some y =>
         simp only [List.mem_singleton,Prod.mk.injEq] at h
         obtain ⟨rfl,rfl⟩:=h
         exact ⟨[],by simp,rfl⟩
     · exact ⟨false :: bs,by simp,h⟩
     · exact ⟨true :: bs,by simp,h⟩
   · rintro ⟨bs,rfl,h⟩
     match bs,h with
     | [],h =>
       have h:v = some x:=h
       subst h
       exact .inl (by simp)
     | false :: bs,h => exact .inr (.inl ⟨bs,by simp,h⟩)
     | true :: bs,h => exact .inr (.inr ⟨bs,by simp,h⟩)
inductive Ahead:List Bool → List Bool → Prop
 | short (b:Bool) (bs:List Bool):Ahead [] (b :: bs)
 | less (bs cs:List Bool):Ahead (false :: bs) (true :: cs)
 | more (b:Bool) {bs cs:List Bool} : Ahead bs cs → Ahead (b :: bs) (b :: cs)
theorem Ahead.append (p:List Bool) {a b:List Bool} (h:Ahead a b):Ahead (p ++ a) (p ++ b):=by
 induction p with
 | nil => exact h
 | cons c p ih => exact .more c ih
theorem all_sorted:∀ (t:Tr) (p:List Bool),(t.all p).Pairwise fun a b => Ahead a.1 b.1
 | nil,p => List.Pairwise.nil
 | node v l r,p => by
   have il:=all_sorted l (p ++ [false])
   have ir:=all_sorted r (p ++ [true])
   have lr:(l.all (p ++ [false]) ++ r.all (p ++ [true])).Pairwise fun a b => Ahead a.1 b.1:=by
    refine List.pairwise_append.2 ⟨il,ir,fun a ha b hb => ?_⟩
    obtain ⟨bs,e1,_⟩:=(mem_all l _ a.1 a.2).1 ha
    obtain ⟨cs,e2,_⟩:=(mem_all r _ b.1 b.2).1 hb
    rw [e1,e2,List.append_assoc,List.append_assoc]
    exact (Ahead.less bs cs).append p
   unfold all
   cases v with
   | none => exact lr
   | some x =>
     refine List.pairwise_append.2 ⟨List.pairwise_singleton _ _,lr,fun a ha b hb => ?_⟩
     obtain rfl:=List.mem_singleton.1 ha
     rcases List.mem_append.1 hb with hb | hb
     · obtain ⟨cs,e2,_⟩:=(mem_all l _ b.1 b.2).1 hb
       rw [e2,List.append_assoc]
       have:=(Ahead.short false cs).append p
       simpa using this
     · obtain ⟨cs,e2,_⟩:=(mem_all r _ b.1 b.2).1 hb
       rw [e2,List.append_assoc]
       have:=(Ahead.short true cs).append p
       simpa using this
theorem all_none:∀ (t:Tr) (p:List Bool),(∀ bs,t.get bs = none) → t.all p = []
 | nil,_,_ => rfl
 | node v l r,p,h => by
   have hv:v = none:=h []
   subst hv
   have el:=all_none l (p ++ [false]) fun bs => h (false :: bs)
   have er:=all_none r (p ++ [true]) fun bs => h (true :: bs)
   show [] ++ (l.all (p ++ [false]) ++ r.all (p ++ [true])) = []
   rw [el,er]; rfl
theorem all_same:∀ (t u:Tr) (p:List Bool),(∀ bs,t.get bs = u.get bs) → t.all p = u.all p
 | nil,u,p,h => (all_none u p fun bs => by rw [← h bs,get_nil]).symm
 | node v l r,nil,p,h => all_none _ p fun bs => by rw [h bs,get_nil]
 | node v l r,node v2 l2 r2,p,h => by
   have hv:v = v2:=h []
   subst hv
   have el:=all_same l l2 (p ++ [false]) fun bs => h (false :: bs)
   have er:=all_same r r2 (p ++ [true]) fun bs => h (true :: bs)
   unfold all
   rw [el,er]
def longest:Tr → List Bool → Option (Nat × Int)
 | nil,_ => none
 | node v l r,[] => v.map fun x => (0,x)
 | node v l r,b :: bs => match (if b then r.longest bs else l.longest bs) with
   | some (n,x) => some (n + 1,x)
   | none => v.map fun x => (0,x)
theorem longest_some:∀ (t:Tr) (bs:List Bool) (n:Nat) (x:Int),t.longest bs = some (n,x) → n ≤ bs.length ∧ t.get (bs.take n) = some x ∧ ∀ m,n < m → m ≤ bs.length → t.get (bs.take m) = none
 | nil,bs,n,x,h => by simp [longest] at h
 | node v l r,[],n,x,h => by
   simp only [longest,Option.map_eq_some_iff,Prod.mk.injEq] at h
   obtain ⟨y,rfl,rfl,rfl⟩:=h
   exact ⟨Nat.le_refl _,rfl,fun m h1 h2 => by simp at h2; omega⟩
 | node v l r,b :: bs,n,x,h => by
   have key:∀ (s:Tr),(∀ m,(node v l r).get ((b :: bs).take (m + 1)) = s.get (bs.take m)) → (match s.longest bs with | some (n,x) => some (n + 1,x) | none => v.map fun x => (0,x)) = some (n,x) →
    (∀ n x,s.longest bs = some (n,x) → n ≤ bs.length ∧ s.get (bs.take n) = some x ∧ ∀ m,n < m → m ≤ bs.length → s.get (bs.take m) = none) → (s.longest bs = none → ∀ m,m ≤ bs.length → s.get (bs.take m) = none) →
    n ≤ (b :: bs).length ∧ (node v l r).get ((b :: bs).take n) = some x ∧ ∀ m,n < m → m ≤ (b :: bs).length → (node v l r).get ((b :: bs).take m) = none:=by
    intro s hs h h1 h2
    cases e:s.longest bs with
    | some y =>
      obtain ⟨k,z⟩:=y
      rw [e] at h
      simp only [Option.some.injEq,Prod.mk.injEq] at h
      obtain ⟨rfl,rfl⟩:=h
      obtain ⟨q1,q2,q3⟩:=h1 k z e
      refine ⟨by simp; omega,by rw [hs]; exact q2,fun m h3 h4 => ?_⟩
      obtain ⟨m,rfl⟩ : ∃ j,m = j + 1:=⟨m - 1,by omega⟩
      rw [hs]
      exact q3 m (by omega) (by simpa using h4)
    | none =>
      rw [e] at h
      simp only [Option.map_eq_some_iff,Prod.mk.injEq] at h
      obtain ⟨y,rfl,rfl,rfl⟩:=h
      refine ⟨Nat.zero_le _,rfl,fun m h3 h4 => ?_⟩
      obtain ⟨m,rfl⟩ : ∃ j,m = j + 1:=⟨m - 1,by omega⟩
      rw [hs]
      exact h2 e m (by simpa using h4)
   cases b with
   | false => exact key l (fun m => rfl) h (fun n x => longest_some l bs n x) (longest_none l bs)
   | true => exact key r (fun m => rfl) h (fun n x => longest_some r bs n x) (longest_none r bs)
where longest_none:∀ (t:Tr) (bs:List Bool),t.longest bs = none → ∀ m,m ≤ bs.length → t.get (bs.take m) = none
 | nil,bs,_,m,_ => get_nil _
 | node v l r,[],h,m,hm => by
   simp only [longest,Option.map_eq_none_iff] at h
   subst h
   simp at hm
   subst hm
   rfl
 | node v l r,b :: bs,h,m,hm => by
   cases m with
   | zero =>
     show v = none
     cases b <;> (simp only [longest] at h; split at h <;> simp_all)
   | succ m =>
     have h2:m ≤ bs.length:=by simpa using hm
     cases b with
     | false =>
       refine longest_none l bs ?_ m h2
       simp only [longest,Bool.false_eq_true,if_false] at h
       cases e:l.longest bs with
       | none => rfl
       | some y => rw [e] at h; cases h
     | true =>
       refine longest_none r bs ?_ m h2
       simp only [longest,if_true] at h
       cases e:r.longest bs with
       | none => rfl
       | some y => rw [e] at h; cases h
def count:Tr → Nat
 | nil => 0
 | node v l r => (if v = none then 0 else 1) + l.count + r.count
theorem all_length:∀ (t:Tr) (p:List Bool),(t.all p).length = t.count
 | nil,_ => rfl
 | node v l r,p => by
   have il:=all_length l (p ++ [false])
   have ir:=all_length r (p ++ [true])
   cases v <;> simp [all,count,il,ir] <;> omega
end Tr
end Go.Proofs.YtbnpelciceblfaaGreat
namespace Go.Proofs.YtbnpelciceblfaaGreat
set_option linter.unusedVariables false
namespace Tr
set_option maxHeartbeats 64000000
def Lim:Tr → Nat → Prop
 | nil,_ => True
 | node _ l r,n => ∃ m,n = m + 1 ∧ l.Lim m ∧ r.Lim m
theorem lim_put:∀ (t:Tr) (bs:List Bool) (x:Int) (n:Nat),t.Lim n → bs.length < n → (t.put bs x).Lim n
 | nil,[],x,n,_,h => ⟨n - 1,by simp at h; omega,trivial,trivial⟩
 | nil,b :: bs,x,n,_,h => by
   have k:=lim_put nil bs x (n - 1) trivial (by simp at h; omega)
   cases b
   · exact ⟨n - 1,by simp at h; omega,k,trivial⟩
   · exact ⟨n - 1,by simp at h; omega,trivial,k⟩
 | node v l r,[],x,n,h,_ => h
 | node v l r,b :: bs,x,n,⟨m,e,h1,h2⟩,h => by
   simp only [List.length_cons] at h
   cases b
   · exact ⟨m,e,lim_put l bs x m h1 (by omega),h2⟩
   · exact ⟨m,e,h1,lim_put r bs x m h2 (by omega)⟩
theorem lim_mk {v:Option Int} {l r:Tr} {m:Nat} (h1:l.Lim m) (h2:r.Lim m):(mk v l r).Lim (m + 1):=by
 cases v <;> cases l <;> cases r <;> first | trivial | exact ⟨m,rfl,h1,h2⟩
theorem count_same (t u:Tr) (h:∀ bs,t.get bs = u.get bs):t.count = u.count:=by
 rw [← all_length t [],← all_length u [],all_same t u [] h]
theorem count_put:∀ (t:Tr) (bs:List Bool) (x:Int),(t.put bs x).count = t.count + (if t.get bs = none then 1 else 0)
 | nil,[],x => rfl
 | nil,b :: bs,x => by
   have k:=count_put nil bs x
   rw [get_nil] at k
   rw [get_nil]
   cases b <;> simp [put,count] at k ⊢ <;> omega
 | node v l r,[],x => by cases v <;> simp [put,count,get] <;> omega
 | node v l r,b :: bs,x => by
   have k1:=count_put l bs x
   have k2:=count_put r bs x
   cases b <;> simp only [put,count,get,if_true,Bool.false_eq_true,if_false] <;> omega
theorem count_mk (v:Option Int) (l r:Tr):(mk v l r).count = (node v l r).count:=count_same _ _ fun bs => get_mk v l r bs
theorem count_del:∀ (t:Tr) (bs:List Bool),(t.del bs).count + (if t.get bs = none then 0 else 1) = t.count
 | nil,bs => by simp [get_nil,del]
 | node v l r,[] => by
   show (mk none l r).count + _ = _
   rw [count_mk]
   cases v <;> simp [count,get] <;> omega
 | node v l r,b :: bs => by
   have k1:=count_del l bs
   have k2:=count_del r bs
   cases b
   · show (mk v (l.del bs) r).count + (if l.get bs = none then 0 else 1) = _
     rw [count_mk]
     simp only [count]; omega
   · show (mk v l (r.del bs)).count + (if r.get bs = none then 0 else 1) = _
     rw [count_mk]
     simp only [count]; omega
def clean:Tr → Tr
 | nil => nil
 | node v l r => mk v l r
def prune:Tr → List Bool → Tr
 | nil,_ => nil
 | node v l r,[] => node v l r
 | node v l r,b :: bs => if b then node v l (r.prune bs).clean else node v (l.prune bs).clean r
theorem get_clean (t:Tr) (cs:List Bool):t.clean.get cs = t.get cs:=by
 cases t
 · rfl
 · exact get_mk _ _ _ _
theorem get_prune:∀ (t:Tr) (bs cs:List Bool),(t.prune bs).get cs = t.get cs
 | nil,_,_ => rfl
 | node v l r,[],_ => rfl
 | node v l r,b :: bs,[] => by cases b <;> rfl
 | node v l r,b :: bs,c :: cs => by
   have il:=get_prune l bs cs
   have ir:=get_prune r bs cs
   cases b <;> cases c <;> simp [prune,get,get_clean,il,ir]
theorem lim_clean {t:Tr} {n:Nat} (h:t.Lim n):t.clean.Lim n:=by
 cases t
 · exact h
 · obtain ⟨m,rfl,h1,h2⟩:=h
   exact lim_mk h1 h2
theorem lim_prune:∀ (t:Tr) (bs:List Bool) (n:Nat),t.Lim n → (t.prune bs).Lim n
 | nil,_,_,h => h
 | node v l r,[],n,h => h
 | node v l r,b :: bs,n,⟨m,e,h1,h2⟩ => by
   cases b
   · exact ⟨m,e,lim_clean (lim_prune l bs m h1),h2⟩
   · exact ⟨m,e,h1,lim_clean (lim_prune r bs m h2)⟩
def comb (k:Nat) (o best:Option (Nat × Int)):Option (Nat × Int) :=
 match o with
 | some (n,x) => some (n + k,x)
 | none => best
def bestJ (v:Option Int) (k:Nat) (best:Option (Nat × Int)):Option (Nat × Int) :=
 match v with
 | some x => some (k,x)
 | none => best
theorem comb_nil (k:Nat) (bs:List Bool) (best:Option (Nat × Int)):comb k (nil.longest bs) best = best:=by cases bs <;> rfl
theorem comb_end (v:Option Int) (l r:Tr) (k:Nat) (best:Option (Nat × Int)):comb k ((node v l r).longest []) best = bestJ v k best:=by
 cases v
 · rfl
 · show some (0 + k,_) = some (k,_); rw [Nat.zero_add]
theorem comb_step (v:Option Int) (l r:Tr) (b:Bool) (bs:List Bool) (k:Nat) (best:Option (Nat × Int)) :
 comb k ((node v l r).longest (b :: bs)) best = comb (k + 1) ((if b then r else l).longest bs) (bestJ v k best):=by
 have key:∀ o:Option (Nat × Int),comb k (match o with | some (n,x) => some (n + 1,x) | none => v.map fun x => (0,x)) best = comb (k + 1) o (bestJ v k best):=by
  intro o
  cases o with
  | none =>
    cases v
    · rfl
    · show some (0 + k,_) = some (k,_); rw [Nat.zero_add]
  | some y => show some (y.1 + 1 + k,y.2) = some (y.1 + (k + 1),y.2); rw [Nat.add_assoc,Nat.add_comm 1 k]
 cases b
 · exact key _
 · exact key _
theorem longest_same (t u:Tr) (h:∀ bs,t.get bs = u.get bs) (bs:List Bool):t.longest bs = u.longest bs:=by
 cases e:t.longest bs with
 | none =>
   have k:=longest_some.longest_none t bs e
   cases f:u.longest bs with
   | none => rfl
   | some y =>
     obtain ⟨q1,q2,_⟩:=longest_some u bs y.1 y.2 f
     have:=k y.1 q1
     rw [h,q2] at this; cases this
 | some y =>
   obtain ⟨p1,p2,p3⟩:=longest_some t bs y.1 y.2 e
   cases f:u.longest bs with
   | none =>
     have:=longest_some.longest_none u bs f y.1 p1
     rw [← h,p2] at this; cases this
   | some z =>
     obtain ⟨q1,q2,q3⟩:=longest_some u bs z.1 z.2 f
     rcases Nat.lt_trichotomy y.1 z.1 with c | c | c
     · have:=p3 z.1 c q1
       rw [h,q2] at this; cases this
     · rw [← c,← h,p2] at q2
       have e2:y.2 = z.2:=by injection q2
       show some (y.1,y.2) = some (z.1,z.2)
       rw [c,e2]
     · have:=q3 y.1 c p1
       rw [← h,p2] at this; cases this
end Tr
end Go.Proofs.YtbnpelciceblfaaGreat
namespace Go.Proofs.YtbnpelciceblfaaGreat
set_option linter.unusedVariables false
set_option maxHeartbeats 64000000
def hi (x:BitVec 128):Int:=((x.toNat / 18446744073709551616:Nat):Int)
def lo (x:BitVec 128):Int:=((x.toNat % 18446744073709551616:Nat):Int)
structure IsW (h l:Int) (x:BitVec 128):Prop where
 h:h = hi x
 l:l = lo x
theorem lt128 (x:BitVec 128):x.toNat < 340282366920938463463374607431768211456:=x.isLt
theorem hi_0 (x:BitVec 128):0 ≤ hi x:=by unfold hi; omega
theorem lo_0 (x:BitVec 128):0 ≤ lo x:=by unfold lo; omega
theorem hi_1 (x:BitVec 128):hi x < 18446744073709551616:=by have:=lt128 x; unfold hi; omega
theorem lo_1 (x:BitVec 128):lo x < 18446744073709551616:=by unfold lo; omega
theorem hilo (x:BitVec 128):(x.toNat:Int) = hi x * 18446744073709551616 + lo x:=by unfold hi lo; omega
theorem isW_self (x:BitVec 128):IsW (hi x) (lo x) x:=⟨rfl,rfl⟩
theorem isW_ex (x:BitVec 128):∃ h l:Int,IsW h l x:=⟨_,_,isW_self x⟩
theorem isW_of {h l:Int} {x:BitVec 128} (h0:0 ≤ l) (h1:l < 18446744073709551616) (e:(x.toNat:Int) = h * 18446744073709551616 + l):IsW h l x:=by
 have:=hilo x; have:=lo_0 x; have:=lo_1 x
 constructor <;> omega
theorem IsW.val {h l:Int} {x:BitVec 128} (k:IsW h l x):(x.toNat:Int) = h * 18446744073709551616 + l:=by rw [k.h,k.l]; exact hilo x
theorem IsW.h0 {h l:Int} {x:BitVec 128} (k:IsW h l x):0 ≤ h:=by rw [k.h]; exact hi_0 x
theorem IsW.h1 {h l:Int} {x:BitVec 128} (k:IsW h l x):h < 18446744073709551616:=by rw [k.h]; exact hi_1 x
theorem IsW.l0 {h l:Int} {x:BitVec 128} (k:IsW h l x):0 ≤ l:=by rw [k.l]; exact lo_0 x
theorem IsW.l1 {h l:Int} {x:BitVec 128} (k:IsW h l x):l < 18446744073709551616:=by rw [k.l]; exact lo_1 x
theorem nat_and_halves (a b:Nat):(a &&& b) / 18446744073709551616 = (a / 18446744073709551616) &&& (b / 18446744073709551616) ∧ (a &&& b) % 18446744073709551616 = (a % 18446744073709551616) &&& (b % 18446744073709551616):=by
 refine ⟨?_,?_⟩
 · exact Nat.and_div_two_pow (n:=64)
 · exact Nat.and_mod_two_pow (n:=64)
theorem nat_or_halves (a b:Nat):(a ||| b) / 18446744073709551616 = (a / 18446744073709551616) ||| (b / 18446744073709551616) ∧ (a ||| b) % 18446744073709551616 = (a % 18446744073709551616) ||| (b % 18446744073709551616):=by
 refine ⟨?_,?_⟩
 · exact Nat.or_div_two_pow (n:=64)
 · exact Nat.or_mod_two_pow (n:=64)
theorem and_halves {ah al bh bl:Int} {x y:BitVec 128} (hx:IsW ah al x) (hy:IsW bh bl y) :
 IsW (bits .and .u64 ah bh) (bits .and .u64 al bl) (x &&& y):=by
 have a:=lt128 x; have b:=lt128 y
 have n:=nat_and_halves x.toNat y.toNat
 rw [hx.h,hx.l,hy.h,hy.l]; unfold hi lo
 rw [bits_and_u64_nat _ _ (by omega) (by omega),bits_and_u64_nat _ _ (by omega) (by omega),← n.1,← n.2,← BitVec.toNat_and]
 exact ⟨rfl,rfl⟩
theorem or_halves {ah al bh bl:Int} {x y:BitVec 128} (hx:IsW ah al x) (hy:IsW bh bl y) :
 IsW (bits .or .u64 ah bh) (bits .or .u64 al bl) (x ||| y):=by
 have a:=lt128 x; have b:=lt128 y
 have n:=nat_or_halves x.toNat y.toNat
 rw [hx.h,hx.l,hy.h,hy.l]; unfold hi lo
 rw [bits_or_u64_nat _ _ (by omega) (by omega),bits_or_u64_nat _ _ (by omega) (by omega),← n.1,← n.2,← BitVec.toNat_or]
 exact ⟨rfl,rfl⟩
theorem two_pows (k:Nat) (hk:k ≤ 64):2 ^ k * 2 ^ (64 - k) = 18446744073709551616:=by
 rw [← Nat.pow_add,show k + (64 - k) = 64 by omega]
theorem mul_mod_pq (H P Q:Nat) (h:P * Q = 18446744073709551616) (hQ:0 < Q) (hP:0 < P) :
 (H * P) % 18446744073709551616 = (H % Q) * P ∧ H * P = (H / Q) * 18446744073709551616 + (H % Q) * P ∧ (H % Q) * P + P ≤ 18446744073709551616:=by
 have e:H * P = (H / Q) * 18446744073709551616 + (H % Q) * P:=by
  conv => lhs; rw [← Nat.div_add_mod H Q]
  rw [Nat.add_mul,← h,Nat.mul_comm Q (H / Q),Nat.mul_assoc,Nat.mul_comm Q P]
 have l:(H % Q) * P + P ≤ 18446744073709551616:=by
  have:H % Q + 1 ≤ Q:=Nat.mod_lt _ hQ
  calc (H % Q) * P + P = (H % Q + 1) * P:=by rw [Nat.add_mul,Nat.one_mul]
   _ ≤ Q * P:=Nat.mul_le_mul_right _ this
   _ = _:=by rw [Nat.mul_comm]; exact h
 refine ⟨?_,e,l⟩
 rw [e]
 omega
theorem or_add (a b k:Nat) (h:b < 2 ^ k):a * 2 ^ k ||| b = a * 2 ^ k + b:=by
 rw [← Nat.shiftLeft_eq,Nat.shiftLeft_add_eq_or_of_lt h]
theorem shl_nat (H L k:Nat) (hk:k ≤ 64) (hL:L < 18446744073709551616) :
 ((H * 18446744073709551616 + L) * 2 ^ k) % 340282366920938463463374607431768211456 =
  ((H * 2 ^ k) % 18446744073709551616 ||| L / 2 ^ (64 - k)) * 18446744073709551616 + (L * 2 ^ k) % 18446744073709551616:=by
 have pq:=two_pows k hk
 have hP:0 < 2 ^ k:=Nat.two_pow_pos k
 have hQ:0 < 2 ^ (64 - k):=Nat.two_pow_pos _
 obtain ⟨a1,a2,a3⟩:=mul_mod_pq H _ _ pq hQ hP
 obtain ⟨b1,b2,b3⟩:=mul_mod_pq L _ _ pq hQ hP
 have hlt:L / 2 ^ (64 - k) < 2 ^ k:=by
  rw [Nat.div_lt_iff_lt_mul hQ,pq]; exact hL
 rw [a1,or_add _ _ _ hlt,b1]
 have e:(H * 18446744073709551616 + L) * 2 ^ k = H * 2 ^ k * 18446744073709551616 + L * 2 ^ k:=by
  rw [Nat.add_mul,Nat.mul_right_comm]
 rw [e]
 generalize H % 2 ^ (64 - k) * 2 ^ k = r at *
 generalize L % 2 ^ (64 - k) * 2 ^ k = t at *
 generalize H * 2 ^ k = c at *
 generalize L * 2 ^ k = d at *
 generalize H / 2 ^ (64 - k) = u at *
 generalize L / 2 ^ (64 - k) = v at *
 generalize 2 ^ k = P at *
 clear e pq
 omega
theorem shl_halves {ah al:Int} {x:BitVec 128} (hx:IsW ah al x) (k:Nat) (hk:k ≤ 64) :
 IsW (bits .or .u64 (IntKind.u64.wrap (ah * 2 ^ k)) (al / 2 ^ (64 - k))) (IntKind.u64.wrap (al * 2 ^ k)) (x <<< k):=by
 have v:=hx.val; have h0:=hx.h0; have h1:=hx.h1; have l0:=hx.l0; have l1:=hx.l1
 clear hx
 obtain ⟨H,rfl⟩:=Int.eq_ofNat_of_zero_le h0
 obtain ⟨L,rfl⟩:=Int.eq_ofNat_of_zero_le l0
 have c1:((H:Int) * 2 ^ k) = ((H * 2 ^ k:Nat):Int):=by simp
 have c2:((L:Int) * 2 ^ k) = ((L * 2 ^ k:Nat):Int):=by simp
 have c3:((L:Int) / 2 ^ (64 - k)) = ((L / 2 ^ (64 - k):Nat):Int):=by simp
 have hq:L / 2 ^ (64 - k) ≤ L:=Nat.div_le_self _ _
 rw [c1,c2,c3,IntKind.wrap_u64,IntKind.wrap_u64]
 have d1:((H * 2 ^ k:Nat):Int) % 18446744073709551616 = ((H * 2 ^ k % 18446744073709551616:Nat):Int):=by omega
 have d2:((L * 2 ^ k:Nat):Int) % 18446744073709551616 = ((L * 2 ^ k % 18446744073709551616:Nat):Int):=by omega
 rw [d1,d2,bits_or_u64_nat _ _ (by omega) (by omega)]
 have key:=shl_nat H L k hk (by omega)
 have e:x.toNat = H * 18446744073709551616 + L:=by omega
 refine isW_of (by omega) (by omega) ?_
 rw [BitVec.toNat_shiftLeft,e,Nat.shiftLeft_eq]
 have:(2:Nat) ^ 128 = 340282366920938463463374607431768211456:=by decide
 rw [this,key]
 omega
theorem shl_far {ah al:Int} {x:BitVec 128} (hx:IsW ah al x) (k:Nat) (hk:64 ≤ k) :
 IsW (IntKind.u64.wrap (al * 2 ^ min (k - 64) 64)) 0 (x <<< k):=by
 have e:x <<< k = (x <<< 64) <<< (k - 64):=by rw [← BitVec.shiftLeft_add,show 64 + (k - 64) = k by omega]
 have s:=shl_halves hx 64 (by omega)
 have s':IsW al 0 (x <<< 64):=by
  have l0:=hx.l0; have l1:=hx.l1
  have z1:IntKind.u64.wrap (ah * 2 ^ 64) = 0:=by rw [IntKind.wrap_u64]; omega
  have z2:IntKind.u64.wrap (al * 2 ^ 64) = 0:=by rw [IntKind.wrap_u64]; omega
  rw [z1,z2] at s
  obtain ⟨L,rfl⟩:=Int.eq_ofNat_of_zero_le l0
  have o:=bits_or_u64_nat 0 L (by omega) (by omega)
  have z3:(L:Int) / 2 ^ (64 - 64) = (L:Int):=by simp
  rw [z3] at s
  have o':bits .or .u64 0 (L:Int) = (L:Int):=by simpa using o
  rw [o'] at s
  exact s
 by_cases h:k - 64 ≤ 64
 · have t:=shl_halves s' (k - 64) h
   rw [e]
   have z2:IntKind.u64.wrap (0 * 2 ^ (k - 64)) = 0:=by rw [IntKind.wrap_u64]; simp
   have z3:(0:Int) / 2 ^ (64 - (k - 64)) = 0:=by simp
   rw [z2,z3] at t
   have w0:0 ≤ IntKind.u64.wrap (al * 2 ^ (k - 64)):=by rw [IntKind.wrap_u64]; omega
   have w1:IntKind.u64.wrap (al * 2 ^ (k - 64)) < 18446744073709551616:=by rw [IntKind.wrap_u64]; omega
   rw [Nat.min_eq_left h]
   generalize IntKind.u64.wrap (al * 2 ^ (k - 64)) = q at *
   obtain ⟨L,rfl⟩:=Int.eq_ofNat_of_zero_le w0
   have o:=bits_or_u64_nat L 0 (by omega) (by omega)
   have o':bits .or .u64 (L:Int) 0 = (L:Int):=by simpa using o
   rw [o'] at t
   exact t
 · have:x <<< k = 0#128:=BitVec.shiftLeft_eq_zero (by omega)
   rw [this,Nat.min_eq_right (by omega)]
   have z:IntKind.u64.wrap (al * 2 ^ 64) = 0:=by rw [IntKind.wrap_u64]; omega
   rw [z]
   exact ⟨by decide,by decide⟩
end Go.Proofs.YtbnpelciceblfaaGreat
