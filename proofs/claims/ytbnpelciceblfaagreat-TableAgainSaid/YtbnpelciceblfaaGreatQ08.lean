/- JTree HRef HRefB HRefC HRefD HCode ECodeA EGap -/
import Derived.Test.YtbnpelciceblfaaGreatQ04
import Derived.Test.YtbnpelciceblfaaGreatQ05
namespace Go.Proofs.YtbnpelciceblfaaGreat
set_option linter.unusedVariables false
open Go.ChangeShapes Go.WideShapes Go.ChangeAt Go.RowKit Go.Joins
set_option maxHeartbeats 64000000
inductive TB
 | nil
 | node (B:Nat) (c v:Option Int) (l r:TB)
namespace TB
def ptr:TB → Value
 | nil => .pointer none
 | node B _ _ _ _ => .pointer (some ⟨B,0,none⟩)
def tr:TB → Tr
 | nil => .nil
 | node _ _ v l r => .node v l.tr r.tr
def blocks:TB → List Nat
 | nil => []
 | node B _ _ l r => B :: (l.blocks ++ r.blocks)
def sub:TB → List Bool → TB
 | t,[] => t
 | nil,_ :: _ => nil
 | node _ _ _ l r,b :: bs => if b then r.sub bs else l.sub bs
end TB
def cellsJ:Option Int → Option Int → Value → Value → Array Value
 | none,v,p,q => #[p,q,.int .i64 (v.getD 0),.bool v.isSome]
 | some c,v,p,q => #[p,q,.int .i64 (v.getD 0),.bool v.isSome,.int .i64 c]
def tyJ:Option Int → TypeId
 | none => 128
 | some _ => 130
theorem cellsJ_0 (c v:Option Int) (p q:Value):(cellsJ c v p q)[0]? = some p:=by cases c <;> rfl
theorem cellsJ_1 (c v:Option Int) (p q:Value):(cellsJ c v p q)[1]? = some q:=by cases c <;> rfl
theorem cellsJ_2 (c v:Option Int) (p q:Value):(cellsJ c v p q)[2]? = some (.int .i64 (v.getD 0)):=by cases c <;> rfl
theorem cellsJ_3 (c v:Option Int) (p q:Value):(cellsJ c v p q)[3]? = some (.bool v.isSome):=by cases c <;> rfl
theorem cellsJ_4 (c:Int) (v:Option Int) (p q:Value):(cellsJ (some c) v p q)[4]? = some (.int .i64 c):=rfl
theorem cellsJ_set0 (c v:Option Int) (p q x:Value):(cellsJ c v p q).setIfInBounds 0 x = cellsJ c v x q:=by cases c <;> rfl
theorem cellsJ_set1 (c v:Option Int) (p q x:Value):(cellsJ c v p q).setIfInBounds 1 x = cellsJ c v p x:=by cases c <;> rfl
theorem cellsJ_set4 (c d:Int) (v:Option Int) (p q:Value):(cellsJ (some c) v p q).setIfInBounds 4 (.int .i64 d) = cellsJ (some d) v p q:=rfl
namespace TB
def At (w:World):TB → Prop
 | nil => True
 | node B c v l r => w.heap[B]? = some (.cells (cellsJ c v l.ptr r.ptr) (tyJ c) (0,0)) ∧ l.At w ∧ r.At w
theorem At.on {W w:World} : ∀ {t:TB},t.At W → (∀ i ∈ t.blocks,w.heap[i]? = W.heap[i]?) → t.At w
 | nil,_,_ => trivial
 | node B c v l r,⟨h1,h2,h3⟩,k => ⟨(k B (by simp [blocks])).trans h1,h2.on fun i hi => k i (by simp [blocks,hi]),h3.on fun i hi => k i (by simp [blocks,hi])⟩
theorem At.sub {w:World} : ∀ {t:TB} (p:List Bool),t.At w → (t.sub p).At w
 | t,[],h => by cases t <;> exact h
 | nil,_ :: _,_ => trivial
 | node B c v l r,b :: bs,h => by
   cases b
   · exact h.2.1.sub bs
   · exact h.2.2.sub bs
theorem At.lt {w:World} : ∀ {t:TB},t.At w → ∀ i ∈ t.blocks,i < w.heap.size
 | nil,_,i,hi => by simp [blocks] at hi
 | node B c v l r,h,i,hi => by
   simp only [blocks,List.mem_cons,List.mem_append] at hi
   rcases hi with rfl | hi | hi
   · exact (Array.getElem?_eq_some_iff.1 h.1).1
   · exact h.2.1.lt i hi
   · exact h.2.2.lt i hi
theorem At.wider {W w:World} {t:TB} (h:t.At W) (g:Wider W w):t.At w:=h.on fun i hi => wheap g (h.lt i hi)
theorem sub_append:∀ (t:TB) (p q:List Bool),t.sub (p ++ q) = (t.sub p).sub q
 | t,[],q => by cases t <;> rfl
 | nil,b :: p,q => by cases q <;> rfl
 | node B c v l r,b :: p,q => by
   cases b
   · exact sub_append l p q
   · exact sub_append r p q
theorem sub_nil (t:TB):t.sub [] = t:=by cases t <;> rfl
theorem get_sub:∀ (t:TB) (p q:List Bool),t.tr.get (p ++ q) = (t.sub p).tr.get q
 | t,[],q => by cases t <;> rfl
 | nil,b :: p,q => by rw [show (nil:TB).tr = Tr.nil from rfl,Tr.get_nil,show ((nil:TB).sub (b :: p)) = nil from rfl,show (nil:TB).tr = Tr.nil from rfl,Tr.get_nil]
 | node B c v l r,b :: p,q => by
   cases b
   · exact get_sub l p q
   · exact get_sub r p q
end TB
abbrev treeT (t:TB):Thing:=(t.blocks,fun w => t.At w ∧ t.blocks.Nodup)
theorem tree_stable (t:TB):(treeT t).Stable:=fun W w h k => ⟨h.1.on k,h.2⟩
abbrev nodeT (B:Nat) (c v:Option Int) (p q:Value):Thing:=blkT B (cellsJ c v p q) (tyJ c)
theorem Own.treeOpen {V w:World} {R:List Thing} {B:Nat} {c v:Option Int} {l r:TB} (H:Own V w (treeT (.node B c v l r) :: R)) :
 Own V w (nodeT B c v l.ptr r.ptr :: treeT l :: treeT r :: R):=by
 obtain ⟨⟨h1,h2,h3⟩,nd⟩:=H.head
 have nd':(B :: (l.blocks ++ r.blocks)).Nodup:=nd
 obtain ⟨n1,n2⟩:=List.nodup_cons.1 nd'
 have n3:=List.nodup_append.1 n2
 refine H.split (M:=[nodeT B c v l.ptr r.ptr,treeT l,treeT r]) (fun t m => ?_) (fun t m => ?_) (fun t m i hi => ?_) ?_
 · simp only [List.mem_cons,List.not_mem_nil,or_false] at m
   rcases m with rfl | rfl | rfl
   · exact h1
   · exact ⟨h2,n3.1⟩
   · exact ⟨h3,n3.2.1⟩
 · simp only [List.mem_cons,List.not_mem_nil,or_false] at m
   rcases m with rfl | rfl | rfl
   · exact blk_stable _ _ _
   · exact tree_stable _
   · exact tree_stable _
 · simp only [List.mem_cons,List.not_mem_nil,or_false] at m
   rcases m with rfl | rfl | rfl
   · obtain rfl:=List.mem_singleton.1 hi
     exact List.mem_cons_self
   · exact List.mem_cons_of_mem _ (List.mem_append.2 (.inl hi))
   · exact List.mem_cons_of_mem _ (List.mem_append.2 (.inr hi))
 · refine List.pairwise_cons.2 ⟨fun t m i hi hx => ?_,List.pairwise_cons.2 ⟨fun t m i hi hx => ?_,List.pairwise_singleton _ _⟩⟩
   · obtain rfl:=List.mem_singleton.1 hi
     simp only [List.mem_cons,List.not_mem_nil,or_false] at m
     rcases m with rfl | rfl
     · exact n1 (List.mem_append.2 (.inl hx))
     · exact n1 (List.mem_append.2 (.inr hx))
   · obtain rfl:=List.mem_singleton.1 m
     exact n3.2.2 i hi i hx rfl
theorem Own.treeShut {V w:World} {R:List Thing} {B:Nat} {c v:Option Int} {l r:TB} {p q:Value} (hp:l.ptr = p) (hq:r.ptr = q) (H:Own V w (nodeT B c v p q :: treeT l :: treeT r :: R)) :
 Own V w (treeT (.node B c v l r) :: R):=by
 subst hp hq
 have a1:=List.pairwise_cons.1 H.apart
 have a2:=List.pairwise_cons.1 a1.2
 refine Own.join (M:=[nodeT B c v l.ptr r.ptr,treeT l,treeT r]) H ⟨⟨H.head,H.drop.head.1,H.drop.drop.head.1⟩,?_⟩ (tree_stable _) fun i hi => ?_
 · show (B :: (l.blocks ++ r.blocks)).Nodup
   refine List.nodup_cons.2 ⟨fun m => ?_,List.nodup_append.2 ⟨H.drop.head.2,H.drop.drop.head.2,fun a ha b hb e => ?_⟩⟩
   · rcases List.mem_append.1 m with m | m
     · exact a1.1 (treeT l) (.head _) B (by simp) m
     · exact a1.1 (treeT r) (.tail _ (.head _)) B (by simp) m
   · subst e
     exact a2.1 (treeT r) (.head _) a ha hb
 · have hi:i ∈ B :: (l.blocks ++ r.blocks):=hi
   rcases List.mem_cons.1 hi with rfl | hi
   · exact ⟨_,.head _,by simp⟩
   · rcases List.mem_append.1 hi with hi | hi
     · exact ⟨_,.tail _ (.head _),hi⟩
     · exact ⟨_,.tail _ (.tail _ (.head _)),hi⟩
theorem Own.noTree {V w:World} {R:List Thing} (H:Own V w R):Own V w (treeT .nil :: R) where
 holds r m:=by
  rcases List.mem_cons.1 m with rfl | m
  · exact ⟨trivial,List.nodup_nil⟩
  · exact H.holds r m
 new r m i hi:=by
  rcases List.mem_cons.1 m with rfl | m
  · exact absurd hi (by simp [TB.blocks])
  · exact H.new r m i hi
 apart:=List.pairwise_cons.2 ⟨fun r m i hi => absurd hi (by simp [TB.blocks]),H.apart⟩
 stable r m:=by
  rcases List.mem_cons.1 m with rfl | m
  · exact tree_stable _
  · exact H.stable r m
 wider:=H.wider
theorem Own.swap2 {V w:World} {a b c:Thing} {R:List Thing} (H:Own V w (a :: b :: c :: R)):Own V w (a :: c :: b :: R) where
 holds x m:=H.holds x (by simp only [List.mem_cons] at m ⊢; rcases m with m | m | m | m <;> simp [m])
 new x m:=H.new x (by simp only [List.mem_cons] at m ⊢; rcases m with m | m | m | m <;> simp [m])
 apart:=by
  have k:=List.pairwise_cons.1 H.apart
  refine List.pairwise_cons.2 ⟨fun x m i hi hx => k.1 x (by simp only [List.mem_cons] at m ⊢; rcases m with m | m | m <;> simp [m]) i hi hx,H.drop.swap.apart⟩
 stable x m:=H.stable x (by simp only [List.mem_cons] at m ⊢; rcases m with m | m | m | m <;> simp [m])
 wider:=H.wider
structure Fr where
 d:Bool
 B:Nat
 c:Option Int
 v:Option Int
 s:TB
def Fr.fill (f:Fr) (t:TB):TB:=if f.d then .node f.B f.c f.v f.s t else .node f.B f.c f.v t f.s
def plugJ:List Fr → TB → TB
 | [],t => t
 | f :: C,t => plugJ C (f.fill t)
def pathJ:List Fr → List Bool
 | [] => []
 | f :: C => pathJ C ++ [f.d]
def ctxL:List Fr → Value → List Thing
 | [],_ => []
 | f :: C,p => nodeT f.B f.c f.v (if f.d then f.s.ptr else p) (if f.d then p else f.s.ptr) :: treeT f.s :: ctxL C (.pointer (some ⟨f.B,0,none⟩))
theorem plug_append:∀ (C D:List Fr) (t:TB),plugJ (C ++ D) t = plugJ D (plugJ C t)
 | [],D,t => rfl
 | f :: C,D,t => plug_append C D (f.fill t)
theorem path_append:∀ (C D:List Fr),pathJ (C ++ D) = pathJ D ++ pathJ C
 | [],D => by simp [pathJ]
 | f :: C,D => by simp [pathJ,path_append C D]
theorem fill_ptr (f:Fr) (t:TB):(f.fill t).ptr = .pointer (some ⟨f.B,0,none⟩):=by unfold Fr.fill; cases f.d <;> rfl
theorem Own.plugged {V w:World} {R:List Thing} : ∀ {C:List Fr} {t:TB},Own V w (treeT t :: (ctxL C t.ptr ++ R)) → Own V w (treeT (plugJ C t) :: R)
 | [],t,H => H
 | f :: C,t,H => by
   obtain ⟨d,B,c,v,s⟩:=f
   refine Own.plugged (C:=C) (t:=(Fr.mk d B c v s).fill t) ?_
   rw [fill_ptr]
   cases d
   · have H:Own V w (treeT t :: nodeT B c v t.ptr s.ptr :: treeT s :: (ctxL C (.pointer (some ⟨B,0,none⟩)) ++ R)):=H
     exact H.swap.treeShut rfl rfl
   · have H:Own V w (treeT t :: nodeT B c v s.ptr t.ptr :: treeT s :: (ctxL C (.pointer (some ⟨B,0,none⟩)) ++ R)):=H
     exact (H.swap.swap2).treeShut rfl rfl
theorem Own.unplug {V w:World} {R:List Thing} : ∀ {C:List Fr} {t:TB},Own V w (treeT (plugJ C t) :: R) → Own V w (treeT t :: (ctxL C t.ptr ++ R))
 | [],t,H => H
 | f :: C,t,H => by
   have H1:=Own.unplug (C:=C) (t:=f.fill t) H
   rw [fill_ptr] at H1
   obtain ⟨d,B,c,v,s⟩:=f
   cases d
   · exact (Own.treeOpen H1).swap
   · exact ((Own.treeOpen H1).swap2).swap
theorem plug_ex:∀ (t:TB) (p:List Bool),t.sub p ≠ .nil → ∃ C,pathJ C = p ∧ plugJ C (t.sub p) = t
 | t,[],_ => ⟨[],rfl,by cases t <;> rfl⟩
 | .nil,b :: p,h => absurd rfl h
 | .node B c v l r,b :: p,h => by
   cases b
   · obtain ⟨C,h1,h2⟩:=plug_ex l p h
     refine ⟨C ++ [⟨false,B,c,v,r⟩],by simp [path_append,pathJ,h1],?_⟩
     rw [plug_append,show (TB.node B c v l r).sub (false :: p) = l.sub p from rfl,h2]; rfl
   · obtain ⟨C,h1,h2⟩:=plug_ex r p h
     refine ⟨C ++ [⟨true,B,c,v,l⟩],by simp [path_append,pathJ,h1],?_⟩
     rw [plug_append,show (TB.node B c v l r).sub (true :: p) = r.sub p from rfl,h2]; rfl
theorem sub_plug:∀ (C:List Fr) (t:TB) (q:List Bool),(plugJ C t).sub (pathJ C ++ q) = t.sub q
 | [],t,q => rfl
 | f :: C,t,q => by
   show (plugJ C (f.fill t)).sub ((pathJ C ++ [f.d]) ++ q) = _
   rw [List.append_assoc,sub_plug C]
   unfold Fr.fill
   cases f.d <;> rfl
def trPlug:List Fr → Tr → Tr
 | [],t => t
 | f :: C,t => trPlug C (if f.d then .node f.v f.s.tr t else .node f.v t f.s.tr)
theorem tr_plug:∀ (C:List Fr) (t:TB),(plugJ C t).tr = trPlug C t.tr
 | [],t => rfl
 | f :: C,t => by
   show (plugJ C (f.fill t)).tr = _
   rw [tr_plug C,show trPlug (f :: C) t.tr = trPlug C (if f.d then .node f.v f.s.tr t.tr else .node f.v t.tr f.s.tr) from rfl]
   congr 1
   unfold Fr.fill
   cases f.d <;> rfl
theorem put_plug:∀ (C:List Fr) (t:Tr) (q:List Bool) (x:Int),(trPlug C t).put (pathJ C ++ q) x = trPlug C (t.put q x)
 | [],t,q,x => rfl
 | f :: C,t,q,x => by
   show (trPlug C _).put ((pathJ C ++ [f.d]) ++ q) x = trPlug C _
   rw [List.append_assoc,put_plug C]
   congr 1
   cases f.d <;> rfl
theorem get_plug:∀ (C:List Fr) (t:Tr) (q:List Bool),(trPlug C t).get (pathJ C ++ q) = t.get q
 | [],t,q => rfl
 | f :: C,t,q => by
   show (trPlug C _).get ((pathJ C ++ [f.d]) ++ q) = _
   rw [List.append_assoc,get_plug C]
   cases f.d <;> rfl
theorem put_fresh (q:List Bool) (x:Int):(Tr.node none .nil .nil).put q x = Tr.put .nil q x:=by
 cases q <;> rfl
end Go.Proofs.YtbnpelciceblfaaGreat
namespace Go.Proofs.YtbnpelciceblfaaGreat
set_option linter.unusedVariables false
open Go.RowKit
set_option maxHeartbeats 64000000
theorem xor_u32 (a b:Nat) (ha:a < 4294967296) (hb:b < 4294967296):bits .xor .u32 (a:Int) (b:Int) = ((a ^^^ b:Nat):Int):=by
 have hx:a ^^^ b < 2 ^ 32:=Nat.xor_lt_two_pow (by omega) (by omega)
 have h1:(BitVec.ofInt 32 (a:Int)).toNat = a:=by
  rw [BitVec.ofInt_natCast,BitVec.toNat_ofNat]; exact Nat.mod_eq_of_lt (by omega)
 have h2:(BitVec.ofInt 32 (b:Int)).toNat = b:=by
  rw [BitVec.ofInt_natCast,BitVec.toNat_ofNat]; exact Nat.mod_eq_of_lt (by omega)
 show IntKind.u32.wrap ((BitVec.ofInt 32 (a:Int) ^^^ BitVec.ofInt 32 (b:Int)).toNat:Int) = _
 rw [BitVec.toNat_xor,h1,h2,IntKind.wrap_u32]
 omega
theorem lt32 (x:BitVec 32):x.toNat < 4294967296:=x.isLt
theorem xor_b (x y:BitVec 32):bits .xor .u32 (x.toNat:Int) (y.toNat:Int) = ((x ^^^ y).toNat:Int):=by
 rw [xor_u32 _ _ (lt32 x) (lt32 y),BitVec.toNat_xor]
theorem mul_b (x y:BitVec 32):IntKind.u32.wrap ((x.toNat:Int) * (y.toNat:Int)) = ((x * y).toNat:Int):=by
 rw [IntKind.wrap_u32,BitVec.toNat_mul,← Int.natCast_mul]; omega
theorem shr_b (x:BitVec 32) (k:Nat):((x >>> k).toNat:Int) = (x.toNat:Int) / ((2 ^ k:Nat):Int):=by
 rw [BitVec.toNat_ushiftRight,Nat.shiftRight_eq_div_pow,Int.natCast_ediv]
theorem hbtake (s:ByteArray) (k:Nat) (h:k < s.size):s.data.toList.take (k + 1) = s.data.toList.take k ++ [s[k]]:=by
 rw [List.take_succ_eq_append_getElem (by simpa using h)]; rfl
theorem step_b (x:BitVec 32) (c:UInt8) {b:Nat} (hb:(x ^^^ BitVec.ofNat 32 c.toNat).toNat = b):bits .xor .u32 (x.toNat:Int) (c.toNat:Int) = (b:Int) ∧ IntKind.u32.wrap ((b:Int) * 16777619) = ((stepH x c).toNat:Int):=by
 have hc:=c.toNat_lt
 have e:((c.toNat:Nat):Int) = ((BitVec.ofNat 32 c.toNat).toNat:Int):=by
  rw [BitVec.toNat_ofNat]; omega
 constructor
 · rw [e,xor_b,hb]
 · have m:=mul_b (x ^^^ BitVec.ofNat 32 c.toNat) 16777619#32
   rw [hb] at m
   exact m
theorem fold_b (x:BitVec 32) {a b:Nat} (k:Nat) (ha:x.toNat = a) (hb:(x ^^^ (x >>> k)).toNat = b):bits .xor .u32 (a:Int) ((a:Int) / ((2 ^ k:Nat):Int)) = (b:Int):=by
 rw [← ha,← shr_b,xor_b,hb]
theorem hltake_snoc (l:List ByteArray) (k:Nat) (s:ByteArray) (h:l[k]? = some s):l.take (k + 1) = l.take k ++ [s]:=by
 have hk:k < l.length:=(List.getElem?_eq_some_iff.1 h).1
 rw [List.take_succ_eq_append_getElem hk]
 congr 2
 rw [List.getElem?_eq_getElem hk] at h
 injection h
def textsH (l:List ByteArray):BitVec 32:=moreH 2166136261#32 (joinL l).data.toList
theorem textsH_nil:textsH [] = 2166136261#32:=rfl
theorem textsH_snoc (l:List ByteArray) (s:ByteArray):textsH (l ++ [s]) = moreH (textsH l) s.data.toList:=by
 unfold textsH
 rw [joinL_snoc,ByteArray.data_append,Array.toList_append,moreH_append]
theorem hmore_s (x:BitVec 32) (s:ByteArray) {a r:Nat} (hs:s.size < 1152921504606846976) (ha:x.toNat = a) (hr:(moreH x s.data.toList).toNat = r) (w:World) :
 Calls Tryz.prog 98 #[.int .u32 (a:Int),.string s] w fun e w' => e = .returned (.int .u32 (r:Int)) ∧ w' = w:=by
 have HR:=Lib.hid hr
 have HA:=Lib.hid ha
 clear hr ha
 go_enter Tryz.func98,Tryz.ntmps98
 go_wp2
 go_loop [0,8] (fun h i => ∃ k:Nat,k ≤ s.size ∧ i = .int .i64 (k:Int) ∧ ∃ V:Nat,h = .int .u32 (V:Int) ∧ (moreH x (s.data.toList.take k)).toNat = V) (fun _ i => s.size - (intOf i).toNat)
 case atStart => exact ⟨0,by omega,by simp,a,rfl,HA.out⟩
 case round =>
  obtain ⟨k,hk,rfl,V,rfl,hV⟩:=hrel
  have HV:=Lib.hid hV
  clear hV
  by_cases d:k < s.size
  · have i0:(0:Int) ≤ (k:Int):=by omega
    have i1:(k:Int) < (s.size:Int):=by omega
    obtain ⟨b,hb⟩ : ∃ b,(moreH x (s.data.toList.take k) ^^^ BitVec.ofNat 32 s[k].toNat).toNat = b:=⟨_,rfl⟩
    obtain ⟨g1,g2⟩:=step_b _ _ hb
    rw [HV.out] at g1
    obtain ⟨R,hR⟩ : ∃ R,(stepH (moreH x (s.data.toList.take k)) s[k]).toNat = R:=⟨_,rfl⟩
    rw [hR] at g2
    have hn:(moreH x (s.data.toList.take (k + 1))).toNat = R:=by rw [hbtake s k d,moreH_snoc,hR]
    have g3:(b:Int) * 16777619 % 4294967296 = (R:Int):=by rw [← IntKind.wrap_u32]; exact g2
    have lV:V < 4294967296:=by rw [← HV.out]; exact lt32 _
    have lb:b < 4294967296:=by rw [← hb]; exact lt32 _
    have lc:s[k].toNat < 256:=UInt8.toNat_lt _
    have HN:=Lib.hid hn
    clear hn hb hR
    go_wp2
    go_round
    case rel => exact ⟨k + 1,by omega,by go_num,R,rfl,HN.out⟩
    case measure => simp [intOf]; omega
  · have e:=HV.out
    rw [List.take_of_length_le (by simp; omega),HR.out] at e
    obtain rfl:r = V:=e
    have i1:¬ (k:Int) < (s.size:Int):=by omega
    go_wp2
    go_ret
    exact ⟨rfl,rfl⟩
theorem hjoin_mem (l:List ByteArray) (s:ByteArray) (h:s ∈ l):s.size ≤ (joinL l).size:=by
 rw [joinL_size]
 induction l with
 | nil => cases h
 | cons t l ih =>
   simp only [List.map_cons,List.sum_cons]
   rcases List.mem_cons.1 h with rfl | h
   · omega
   · have:=ih h; omega
theorem hof_s (A:Option Addr) (n cap:Nat) (l:List ByteArray) {r:Nat} (w:World) (h:StrsAt w A l) (hn:l.length = n) (hl:n < 1000000) (hs:(joinL l).size < 1000000) (hr:(textsH l).toNat = r) :
 Calls Tryz.prog 97 #[.slice A n cap] w fun e w' => e = .returned (.int .u32 (r:Int)) ∧ w' = w:=by
 have HR:=Lib.hid hr
 have HS:Hid (∀ s ∈ l,s.size < 1000000):=fun s h => by
  have e:=hjoin_mem l s h
  omega
 have HN:=Lib.hid hn
 clear hr hs hn
 go_enter Tryz.func97,Tryz.ntmps97
 go_wp2
 go_loop [3,8] (fun o i => ∃ k:Nat,k ≤ n ∧ (∃ V:Nat,o = .int .u32 (V:Int) ∧ (textsH (l.take k)).toNat = V) ∧ i = .int .i64 (k:Int)) (fun _ i => n - (intOf i).toNat)
 case atStart => exact ⟨0,by omega,⟨2166136261,by simp,by rw [List.take_zero,textsH_nil]; rfl⟩,by simp⟩
 case round =>
  obtain ⟨k,hk,⟨V,rfl,hV⟩,rfl⟩:=hrel
  have HV:=Lib.hid hV
  clear hV
  by_cases c:k < n
  · have i0:(0:Int) ≤ (k:Int):=by omega
    have i1:(k:Int) < (n:Int):=by omega
    obtain ⟨s,hs⟩ : ∃ s,l[k]? = some s:=⟨l[k]'(by have:=HN.out; omega),List.getElem?_eq_getElem _⟩
    have hsz:=HS.out s (List.mem_of_getElem? hs)
    cases A with
    | none => exact absurd (h.none_ rfl) (by intro e; rw [e] at hs; simp at hs)
    | some a =>
      have hc:=h.cell a rfl k s hs
      have st:=textsH_snoc (l.take k) s
      rw [← hltake_snoc l k s hs] at st
      obtain ⟨R,hR⟩ : ∃ R,(moreH (textsH (l.take k)) s.data.toList).toNat = R:=⟨_,rfl⟩
      have za:=hmore_s (textsH (l.take k)) s (by omega) HV.out hR
      rw [← st] at hR
      have HN2:=Lib.hid hR
      clear st hs hR
      go_wp2_with (go_at_call 98; ((with_reducible refine (za _).mono ?_); rintro e w2 ⟨rfl,rfl⟩))
      go_round
      case rel => exact ⟨k + 1,by omega,⟨R,rfl,HN2.out⟩,by go_num⟩
      case measure => simp [intOf]; omega
  · have e:=HV.out
    rw [List.take_of_length_le (by have:=HN.out; omega),HR.out] at e
    subst e
    have i1:¬ (k:Int) < (n:Int):=by omega
    go_wp2
    go_ret
    exact ⟨rfl,rfl⟩
theorem hmix_s (x:BitVec 32) {a r:Nat} (ha:x.toNat = a) (hr:(mixH x).toNat = r) (w:World) :
 Calls Tryz.prog 96 #[.int .u32 (a:Int)] w fun e w' => e = .returned (.int .u32 (r:Int)) ∧ w' = w:=by
 have la:a < 4294967296:=by rw [← ha]; exact lt32 x
 obtain ⟨b,hb⟩ : ∃ b,(fold16 x).toNat = b:=⟨_,rfl⟩
 obtain ⟨c,hc⟩ : ∃ c,(fold16 x * 0x85EBCA6B#32).toNat = c:=⟨_,rfl⟩
 obtain ⟨d,hd⟩ : ∃ d,(fold13 (fold16 x * 0x85EBCA6B#32)).toNat = d:=⟨_,rfl⟩
 obtain ⟨e,he⟩ : ∃ e,(fold13 (fold16 x * 0x85EBCA6B#32) * 0xC2B2AE35#32).toNat = e:=⟨_,rfl⟩
 have f1:bits .xor .u32 (a:Int) ((a:Int) / 65536) = (b:Int):=fold_b x 16 ha hb
 have m1:=mul_b (fold16 x) 0x85EBCA6B#32
 rw [hb,hc] at m1
 have f2:bits .xor .u32 (c:Int) ((c:Int) / 8192) = (d:Int):=fold_b _ 13 hc hd
 have m2:=mul_b (fold13 (fold16 x * 0x85EBCA6B#32)) 0xC2B2AE35#32
 rw [hd,he] at m2
 have f3:bits .xor .u32 (e:Int) ((e:Int) / 65536) = (r:Int):=fold_b _ 16 he hr
 have n1:IntKind.u32.wrap ((b:Int) * 2246822507) = (c:Int):=m1
 have n2:IntKind.u32.wrap ((d:Int) * 3266489909) = (e:Int):=m2
 have n3:(b:Int) * 2246822507 % 4294967296 = (c:Int):=by rw [← IntKind.wrap_u32]; exact n1
 have n4:(d:Int) * 3266489909 % 4294967296 = (e:Int):=by rw [← IntKind.wrap_u32]; exact n2
 have lb:b < 4294967296:=by rw [← hb]; exact lt32 _
 have lc:c < 4294967296:=by rw [← hc]; exact lt32 _
 have ld:d < 4294967296:=by rw [← hd]; exact lt32 _
 have le:e < 4294967296:=by rw [← he]; exact lt32 _
 clear ha hr hb hc hd he m1 m2
 go_enter Tryz.func96,Tryz.ntmps96
 go_wp2
 go_ret
 exact ⟨rfl,rfl⟩
theorem hslot_s (h:Nat) (n:Int) {r:Nat} (hh:h < 4294967296) (n0:-9223372036854775808 ≤ n) (n1:n ≤ 9223372036854775807) (hr:(if n < 1 then 0 else slotN h n.toNat) = r) (w:World) :
 Calls Tryz.prog 95 #[.int .u32 (h:Int),.int .i64 n] w fun e w' => e = .returned (.int .i64 (r:Int)) ∧ w' = w:=by
 have z1:IntKind.u64.wrap 0 = 0:=by decide
 have z2:wrap64 0 = 0:=by unfold wrap64; omega
 by_cases c:n < 1
 · rw [if_pos c] at hr
   subst hr
   have c1:n ≤ 2147483647:=by omega
   by_cases c2:n = 0
   · subst c2
     go_enter Tryz.func95,Tryz.ntmps95
     go_wp2
     all_goals first
      | omega
      | (go_ret; exact ⟨by simp,rfl⟩)
   · have c3:¬ (0:Int) ≤ n:=by omega
     have c4:n < 0:=by omega
     go_enter Tryz.func95,Tryz.ntmps95
     go_wp2
     all_goals first
      | omega
      | (go_ret; exact ⟨by simp,rfl⟩)
 · rw [if_neg c] at hr
   obtain ⟨q,hq⟩ : ∃ q:Nat,h * min n.toNat 2147483647 = q:=⟨_,rfl⟩
   have lp:q < 18446744073709551616:=by
    have:=Nat.mul_le_mul (Nat.le_of_lt hh) (show min n.toNat 2147483647 ≤ 2147483647 by omega); omega
   have hr2:(q:Int) / 4294967296 = (r:Int):=by rw [← hr]; unfold slotN; rw [hq]; rfl
   have HR:=Lib.hid hr2
   have u1:IntKind.u64.wrap (q:Int) = (q:Int):=by simp [IntKind.wrap,IntKind.bits,IntKind.signed]; omega
   have u2:wrap64 ((q:Int) / 4294967296) = (q:Int) / 4294967296:=by unfold wrap64; omega
   by_cases d:n ≤ 2147483647
   · have e:min n.toNat 2147483647 = n.toNat:=by omega
     rw [e] at hq
     have hq1:(h:Int) * n = (q:Int):=by rw [← hq,Int.natCast_mul]; congr 1; omega
     have c1:0 ≤ n:=by omega
     clear hr hq hr2 e c
     go_enter Tryz.func95,Tryz.ntmps95
     go_wp2
     all_goals first
      | omega
      | (go_ret; exact ⟨by simp; exact HR.out,rfl⟩)
   · have e:min n.toNat 2147483647 = 2147483647:=by omega
     rw [e] at hq
     have hq1:(h:Int) * 2147483647 = (q:Int):=by omega
     have c1:2147483647 < n:=by omega
     have c2:0 ≤ n:=by omega
     clear hr hq hr2 e c d
     go_enter Tryz.func95,Tryz.ntmps95
     go_wp2
     all_goals first
      | omega
      | (go_ret; exact ⟨by simp; exact HR.out,rfl⟩)
theorem hof_c (A:Option Addr) (n cap:Nat) (l:List ByteArray) {r:Nat} (w:World) (h:StrsAt w A l) (hn:l.length = n) (hl:n < 1000000) (hs:(joinL l).size < 1000000) (hr:(textsH l).toNat = r) :
 Calls Tryz.prog 97 #[.slice A n cap] w fun e w' => e = .returned (.int .u32 (r:Int)) ∧ Wider w w' :=
 (hof_s A n cap l w h hn hl hs hr).mono fun _ _ h => ⟨h.1,h.2 ▸ Wider.refl w⟩
theorem hmix_c (x:BitVec 32) {a r:Nat} (ha:x.toNat = a) (hr:(mixH x).toNat = r) (w:World) :
 Calls Tryz.prog 96 #[.int .u32 (a:Int)] w fun e w' => e = .returned (.int .u32 (r:Int)) ∧ Wider w w' :=
 (hmix_s x ha hr w).mono fun _ _ h => ⟨h.1,h.2 ▸ Wider.refl w⟩
theorem hslot_c (h:Nat) (n:Int) {r:Nat} (hh:h < 4294967296) (n0:-9223372036854775808 ≤ n) (n1:n ≤ 9223372036854775807) (hr:(if n < 1 then 0 else slotN h n.toNat) = r) (w:World) :
 Calls Tryz.prog 95 #[.int .u32 (h:Int),.int .i64 n] w fun e w' => e = .returned (.int .i64 (r:Int)) ∧ Wider w w' :=
 (hslot_s h n hh n0 n1 hr w).mono fun _ _ h => ⟨h.1,h.2 ▸ Wider.refl w⟩
end Go.Proofs.YtbnpelciceblfaaGreat
namespace Go.Proofs.YtbnpelciceblfaaGreat
set_option linter.unusedVariables false
open Go.ChangeShapes Go.WideShapes Go.ChangeAt Go.RowKit Go.Joins
open Tab
set_option maxHeartbeats 64000000
def cellE:Option (ByteArray × Int) → List Value
 | none => [.string ⟨#[]⟩,.int .i64 0,.bool false]
 | some (k,v) => [.string k,.int .i64 v,.bool true]
def keyO:Option (ByteArray × Int) → ByteArray
 | none => ⟨#[]⟩
 | some x => x.1
def numO:Option (ByteArray × Int) → Int
 | none => 0
 | some x => x.2
theorem cellE_eq (x:Option (ByteArray × Int)):cellE x = [.string (keyO x),.int .i64 (numO x),.bool x.isSome]:=by cases x <;> rfl
def ecellsE (L:SlotsE):List Value:=L.flatMap cellE
theorem ecellsE_cons (x:Option (ByteArray × Int)) (L:SlotsE):ecellsE (x :: L) = .string (keyO x) :: .int .i64 (numO x) :: .bool x.isSome :: ecellsE L:=by
 show cellE x ++ ecellsE L = _
 rw [cellE_eq]; rfl
theorem ecellsE_length (L:SlotsE):(ecellsE L).length = L.length * 3:=by
 induction L with
 | nil => rfl
 | cons x L ih => rw [ecellsE_cons]; simp only [List.length_cons]; rw [ih]; omega
theorem ecellsE_at:∀ (L:SlotsE) (p:Nat),p < L.length → (ecellsE L)[p * 3]? = some (.string (keyO (tk L p))) ∧ (ecellsE L)[p * 3 + 1]? = some (.int .i64 (numO (tk L p))) ∧ (ecellsE L)[p * 3 + 2]? = some (.bool (tk L p).isSome)
 | [],p,h => absurd h (Nat.not_lt_zero _)
 | x :: L,0,h => by rw [ecellsE_cons]; exact ⟨rfl,rfl,rfl⟩
 | x :: L,p + 1,h => by
   have:=ecellsE_at L p (by simpa using h)
   rw [ecellsE_cons,tk_cons_succ]
   have e:(p + 1) * 3 = p * 3 + 1 + 1 + 1:=by omega
   rw [e]
   simpa using this
theorem ecellsE_set:∀ (L:SlotsE) (p:Nat) (x:Option (ByteArray × Int)),p < L.length → (((ecellsE L).set (p * 3) (.string (keyO x))).set (p * 3 + 1) (.int .i64 (numO x))).set (p * 3 + 2) (.bool x.isSome) = ecellsE (L.set p x)
 | [],p,x,h => absurd h (Nat.not_lt_zero _)
 | y :: L,0,x,h => by rw [List.set_cons_zero,ecellsE_cons,ecellsE_cons]; rfl
 | y :: L,p + 1,x,h => by
   have:=ecellsE_set L p x (by simpa using h)
   rw [ecellsE_cons,List.set_cons_succ,ecellsE_cons]
   have e:(p + 1) * 3 = p * 3 + 1 + 1 + 1:=by omega
   rw [e]
   simp only [List.set_cons_succ]
   rw [this]
theorem ecellsE_one (L:SlotsE):∀ u ∈ ecellsE L,u.oneCell' = true:=by
 induction L with
 | nil => intro u hu; cases hu
 | cons x L ih =>
   intro u hu
   rw [ecellsE_cons] at hu
   simp only [List.mem_cons] at hu
   rcases hu with rfl | rfl | rfl | hu
   · rfl
   · rfl
   · rfl
   · exact ih u hu
theorem ecellsE_free (n:Nat):madeCells #[.string ⟨#[]⟩,.int .i64 0,.bool false] (n * 3) = (ecellsE (List.replicate n none)).toArray:=by
 apply Array.ext_getElem?
 intro i
 have r:(ecellsE (List.replicate n none)).toArray[i]? = (ecellsE (List.replicate n none))[i]? :=by simp
 rw [r]
 clear r
 have l:=ecellsE_length (List.replicate n none)
 rw [List.length_replicate] at l
 by_cases c:i < n * 3
 · obtain ⟨p,r,rfl,hr⟩ : ∃ p r,i = p * 3 + r ∧ r < 3:=⟨i / 3,i % 3,by omega,by omega⟩
   have hp:p < n:=by omega
   obtain ⟨a0,a1,a2⟩:=ecellsE_at (List.replicate n none) p (by rw [List.length_replicate]; exact hp)
   rw [tk_replicate] at a0 a1 a2
   match r,hr with
   | 0,_ =>
     rw [Nat.add_zero] at c ⊢
     rw [a0]
     have m:p * 3 % 3 = 0:=by omega
     simp [madeCells,c,keyO,m]
   | 1,_ =>
     rw [a1]
     have m:(p * 3 + 1) % 3 = 1:=by omega
     simp [madeCells,c,numO,m]
   | 2,_ =>
     rw [a2]
     have m:(p * 3 + 2) % 3 = 2:=by omega
     simp [madeCells,c,m]
 · rw [List.getElem?_eq_none (by omega)]
   simp [madeCells]; omega
abbrev blkE (B:Nat) (L:SlotsE):Thing:=blkT B (ecellsE L).toArray 161
theorem slot_cells {w:World} {B:Nat} {L:SlotsE} (h:w.heap[B]? = some (.cells (ecellsE L).toArray 161 (0,0))) {p:Nat} (hp:p < L.length) {x:Option (ByteArray × Int)} (hx:tk L p = x) :
 w.cell? ⟨B,p * 3,none⟩ = some (.string (keyO x)) ∧ w.cell? ⟨B,p * 3 + 1,none⟩ = some (.int .i64 (numO x)) ∧ w.cell? ⟨B,p * 3 + 2,none⟩ = some (.bool x.isSome):=by
 obtain ⟨a0,a1,a2⟩:=ecellsE_at L p hp
 rw [hx] at a0 a1 a2
 exact ⟨blk_cell h _ (by rw [List.getElem?_toArray]; exact a0),blk_cell h _ (by rw [List.getElem?_toArray]; exact a1),blk_cell h _ (by rw [List.getElem?_toArray]; exact a2)⟩
theorem Own.slot {V w:World} {R:List Thing} {B:Nat} {L:SlotsE} (H:Own V w (blkE B L :: R)) {p:Nat} (hp:p < L.length) (x:Option (ByteArray × Int)) :
 Own V (((w.setCell ⟨B,p * 3,none⟩ (.string (keyO x))).setCell ⟨B,p * 3 + 1,none⟩ (.int .i64 (numO x))).setCell ⟨B,p * 3 + 2,none⟩ (.bool x.isSome)) (blkE B (L.set p x) :: R):=by
 have h:=((H.store (p * 3) (.string (keyO x))).store (p * 3 + 1) (.int .i64 (numO x))).store (p * 3 + 2) (.bool x.isSome)
 simp only [List.setIfInBounds_toArray] at h
 rw [ecellsE_set L p x hp] at h
 exact h
theorem nx_P {n a j:Nat} (ha:a < n) (hj:j < n):nx n (P n a j) = P n a (j + 1):=by
 unfold nx P
 split <;> split <;> split <;> omega
theorem eafter_c (a n:Nat) (ha:a < n) (hn:n < 1000000) (w:World) :
 Calls Tryz.prog 93 #[.int .i64 (a:Int),.int .i64 (n:Int)] w fun e w' => e = .returned (.int .i64 (nx n a:Int)) ∧ w = w':=by
 have fin:((a:Int) + 1) % (n:Int) = (nx n a:Int):=by
  unfold nx
  split
  · rw [Int.emod_eq_of_lt (by omega) (by omega)]; rfl
  · have e:(a:Int) + 1 = (n:Int):=by omega
    rw [e,Int.emod_self]; rfl
 have FIN:=Lib.hid fin
 clear fin
 go_enter Tryz.func93,Tryz.ntmps93
 go_wp2
 all_goals first
  | omega
  | (go_ret; exact ⟨by simp; exact FIN.out,rfl⟩)
theorem esteps_c (a b n:Nat) (ha:a < n) (hb:b < n) (hn:n < 1000000) (w:World) :
 Calls Tryz.prog 94 #[.int .i64 (a:Int),.int .i64 (b:Int),.int .i64 (n:Int)] w fun e w' => e = .returned (.int .i64 (D n a b:Int)) ∧ w = w':=by
 have fin:((b:Int) - (a:Int) + (n:Int)) % (n:Int) = (D n a b:Int):=by
  rw [Int.add_emod_right]
  unfold D
  split
  · rw [Int.emod_eq_of_lt (by omega) (by omega)]; omega
  · rw [← Int.add_emod_right,Int.emod_eq_of_lt (by omega) (by omega)]; omega
 rw [Int.add_emod_right] at fin
 have FIN:=Lib.hid fin
 clear fin
 go_enter Tryz.func94,Tryz.ntmps94
 go_wp2
 all_goals first
  | omega
  | (go_ret; exact ⟨by simp; exact FIN.out,rfl⟩)
theorem textsH_one (k:ByteArray):textsH [k] = hashH k.data.toList:=by
 unfold textsH hashH
 rw [joinL_one]
theorem ehome_c (k:ByteArray) (n:Nat) (hk:k.size < 1000000) (h1:1 ≤ n) (hn:n < 1000000) {r:Nat} (hr:homeE k n = r) (w:World) :
 Calls Tryz.prog 92 #[.string k,.int .i64 (n:Int)] w fun e w' => e = .returned (.int .i64 (r:Int)) ∧ Wider w w':=by
 have s0:=StrsAt.new w [k] 9 #[.string k] rfl
 obtain ⟨x,hx⟩ : ∃ x,(textsH [k]).toNat = x:=⟨_,rfl⟩
 obtain ⟨y,hy⟩ : ∃ y,(mixH (textsH [k])).toNat = y:=⟨_,rfl⟩
 have z1:=hof_c (some ⟨w.heap.size,0,none⟩) 1 1 [k] (w.alloc (.cells #[.string k] 9)) s0 rfl (by omega) (by rw [joinL_one]; exact hk) hx
 have z2:=hmix_c (textsH [k]) hx hy
 have z3:=hslot_c y (n:Int) (r:=r) (by rw [← hy]; exact BitVec.isLt _) (by omega) (by omega) (by
  rw [if_neg (by omega),← hr]
  unfold homeE
  rw [← textsH_one,hy]; rfl)
 have H:Wider w w:=Wider.refl w
 clear hx hy hr s0
 go_enter Tryz.func92,Tryz.ntmps92
 go_wp2_with (first
  | (go_at_call 97; ((with_reducible refine z1.mono ?_); rintro e w1 ⟨rfl,g⟩; replace H:=(H.alloc _).trans g; clear g))
  | (go_at_call 96; ((with_reducible refine (z2 _).mono ?_); rintro e w2 ⟨rfl,g⟩; replace H:=H.trans g; clear g))
  | (go_at_call 95; ((with_reducible refine (z3 _).mono ?_); rintro e w3 ⟨rfl,g⟩; replace H:=H.trans g; clear g)))
 go_ret
 exact ⟨rfl,H⟩
theorem text_ne {s t:ByteArray} (h:s ≠ t):(s.toList == t.toList) = false ∧ ¬ s.toList = t.toList:=by
 have e:¬ s.toList = t.toList:=fun e => h (ba_ext (by rw [← ByteArray.toList_eq,← ByteArray.toList_eq]; exact e))
 exact ⟨by simpa using e,e⟩
theorem efind_c {w:World} {B:Nat} {L:SlotsE} {n:Nat} (hB:w.heap[B]? = some (.cells (ecellsE L).toArray 161 (0,0))) (hL:L.length = n) (hn:n < 1000000) {k:ByteArray} (hk:k.size < 1000000) {p:Nat} (hl:IsLook homeE L k p)
 {d:Nat} (hd:D n (homeE k n) p + 1 = d) :
 Calls Tryz.prog 88 #[.slice (some ⟨B,0,none⟩) n n,.string k] w fun e w' => e = .returned (.tuple #[.int .i64 (p:Int),.int .i64 (d:Int)]) ∧ Wider w w':=by
 have hp:p < n:=by have:=hl.lt; omega
 obtain ⟨h0,hh⟩ : ∃ h0,homeE k n = h0:=⟨_,rfl⟩
 have lt0:h0 < n:=by rw [← hh]; exact homeE_lt k n (by omega)
 have zh:=ehome_c k n hk (by omega) hn hh
 have hpath:∀ q,q < n → D n h0 q < D n h0 p → ∃ k2 v2,tk L q = some (k2,v2) ∧ k2 ≠ k:=by
  have:=hl.path; rw [hL,hh] at this; exact this
 have hhere:=hl.here_
 rw [hh] at hd
 have dn:=D_lt lt0 hp
 have P0:P n h0 0 = h0:=by unfold P; rw [if_pos (by omega)]; rfl
 have HB:=Lib.hid hB
 have HL:=Lib.hid hL
 have HP:=Lib.hid hpath
 have HD:=Lib.hid hd
 have HW:Wider w w:=Wider.refl w
 have HH:=Lib.hid hhere
 clear hB hL hl hh hpath hd hhere
 go_enter Tryz.func88,Tryz.ntmps88
 go_wp2_with (first
  | (go_at_call 92; ((with_reducible refine (zh _).mono ?_); rintro e w1 ⟨rfl,g⟩; replace HW:=HW.trans g; clear g)))
 go_loopw [4,5] (fun a b wr => ∃ j:Nat,j ≤ D n h0 p ∧ (∃ q:Nat,a = .int .i64 (q:Int) ∧ Hid (P n h0 j = q)) ∧ b = .int .i64 (((j + 1:Nat)):Int) ∧ Wider w wr) (fun _ b _ => n - (intOf b).toNat)
 case atStart => exact ⟨0,Nat.zero_le _,⟨h0,rfl,P0⟩,rfl,HW⟩
 case round =>
  obtain ⟨j,hj,⟨q,rfl,HQ⟩,rfl,g⟩:=hrel
  have ql:q < n:=by rw [← HQ.out]; exact P_lt lt0 (by omega)
  have q0:(0:Int) ≤ (q:Int):=by omega
  have q1:(q:Int) < (n:Int):=by omega
  by_cases c:j < D n h0 p
  · obtain ⟨k2,v2,e2,ne⟩:=HP.out q ql (by rw [← HQ.out,D_P lt0 (by omega)]; exact c)
    obtain ⟨c0,c1,c2⟩:=slot_cells ((wheap g (by exact (Array.getElem?_eq_some_iff.1 HB.out).1)).trans HB.out) (by rw [HL.out]; exact ql) e2
    obtain ⟨t0,t1⟩:=text_ne ne
    have t2:=t0
    have HN:=Lib.hid ((congrArg (nx n) HQ.out).symm.trans (nx_P lt0 (by omega)))
    obtain ⟨q2,hq2⟩ : ∃ q2,nx n q = q2:=⟨_,rfl⟩
    have za:=eafter_c q n ql hn
    rw [hq2] at za
    have HN2:Hid (P n h0 (j + 1) = q2):=by have:=HN.out; rw [hq2] at this; exact this.symm
    clear HN hq2 e2 HW
    simp only [keyO,Option.isSome_some] at c0 c2
    go_wp2_with (first
     | (go_at_call 93; ((with_reducible refine (za _).mono ?_); rintro e w3 ⟨rfl,rfl⟩)))
    go_roundw
    case rel => exact ⟨j + 1,by omega,⟨q2,rfl,HN2⟩,by go_num,g⟩
    case measure => simp [intOf]; omega
  · obtain rfl:D n h0 p = j:=by omega
    have eq:q = p:=by rw [← HQ.out,P_D lt0 hp]
    subst eq
    have hBr:=(wheap g (by exact (Array.getElem?_eq_some_iff.1 HB.out).1)).trans HB.out
    obtain rfl:D n h0 q + 1 = d:=HD.out
    rcases HH.out with e2 | ⟨v2,e2⟩
    · obtain ⟨c0,c1,c2⟩:=slot_cells hBr (by rw [HL.out]; exact ql) e2
      simp only [Option.isSome_none] at c2
      clear hBr e2 HW
      go_wp2
      go_ret2
      exact ⟨rfl,g⟩
    · obtain ⟨c0,c1,c2⟩:=slot_cells hBr (by rw [HL.out]; exact ql) e2
      simp only [keyO,Option.isSome_some] at c0 c2
      clear hBr e2 HW
      go_wp2
      go_ret2
      exact ⟨rfl,g⟩
end Go.Proofs.YtbnpelciceblfaaGreat
namespace Go.Proofs.YtbnpelciceblfaaGreat
set_option linter.unusedVariables false
open Tab
set_option maxHeartbeats 64000000
structure Gap (L:SlotsE) (f a e m:Nat) (F:SlotsE):Prop where
 hole:Hole homeE L f a
 el:e < L.length
 en:tk L e = none
 ef:e ≠ f
 way:D L.length f a ≤ D L.length f e
 rest:D L.length a e < m
 fin:shut homeE m L f a = F
theorem Gap.start {L:SlotsE} (g:GoodE L) {p:Nat} {k:ByteArray} {v:Int} (hp:tk L p = some (k,v)) {F:SlotsE} (hF:shut homeE L.length (L.set p none) p (nx L.length p) = F):∃ e,Gap (L.set p none) p (nx L.length p) e L.length F:=by
 obtain ⟨e,he,hn⟩:=g.free
 have pl:=tk_lt hp
 have nep:e ≠ p:=fun x => by subst x; rw [hn] at hp; cases hp
 have one:1 < L.length:=by have:=g.eight; omega
 have s:(L.set p none).length = L.length:=by simp
 exact ⟨e,g.inv.hole homeE_lt hp one,by rw [s]; exact he,by rw [tk_set_ne (Ne.symm nep)]; exact hn,nep,by rw [s,D_nx_self pl one]; exact D_pos pl he (Ne.symm nep),by rw [s]; exact D_lt (nx_lt pl) he,hF⟩
theorem Gap.done {L F:SlotsE} {f a e m:Nat} (h:Gap L f a e m F) (ha:tk L a = none):F = L:=by
 have hf:=h.fin
 cases m with
 | zero => exact absurd h.rest (Nat.not_lt_zero _)
 | succ m =>
   unfold shut at hf
   rw [ha] at hf
   exact hf.symm
theorem Gap.step {L F:SlotsE} {f a e m:Nat} (h:Gap L f a e m F) {k:ByteArray} {v:Int} (ha:tk L a = some (k,v)):∃ m',m = m' + 1 ∧ D L.length a e = D L.length (nx L.length a) e + 1 ∧
 (D L.length (homeE k L.length) f < D L.length (homeE k L.length) a → Gap ((L.set f (some (k,v))).set a none) a (nx L.length a) e m' F) ∧
 (¬ D L.length (homeE k L.length) f < D L.length (homeE k L.length) a → Gap L f (nx L.length a) e m' F):=by
 have hf:=h.fin
 have hole:=h.hole
 have he:=h.el
 have hn:=h.en
 have hr:=h.rest
 have nea:e ≠ a:=fun x => by subst x; rw [hn] at ha; cases ha
 have one:1 < L.length:=by have:=hole.fl; have:=hole.al; have:=hole.ne; omega
 have q:=D_way hole.al (nx_lt hole.al) he (by rw [D_nx_self hole.al one]; exact D_pos hole.al he (Ne.symm nea))
 rw [D_nx_self hole.al one] at q
 cases m with
 | zero => exact absurd hr (Nat.not_lt_zero _)
 | succ m =>
   unfold shut at hf
   rw [ha] at hf
   refine ⟨m,rfl,by omega,fun c => ?_,fun c => ?_⟩
   · have s:((L.set f (some (k,v))).set a none).length = L.length:=by simp
     simp only [if_pos c] at hf
     exact ⟨hole.move homeE_lt ha he hn h.ef c,by rw [s]; exact he,by rw [tk_set_ne (Ne.symm nea),tk_set_ne (Ne.symm h.ef)]; exact hn,nea,by rw [s,D_nx_self hole.al one]; exact D_pos hole.al he (Ne.symm nea),by rw [s]; omega,hf⟩
   · simp only [if_neg c] at hf
     obtain ⟨g,g2⟩:=hole.stay ha he hn h.ef h.way c
     exact ⟨g,he,hn,h.ef,g2,by omega,hf⟩
theorem set_back {L:SlotsE} {p:Nat} {x:Option (ByteArray × Int)} (h:p < L.length) (hx:tk L p = x):L.set p x = L:=by
 apply List.ext_getElem?
 intro i
 rw [List.getElem?_set]
 by_cases c:p = i
 · subst c
   rw [if_pos rfl,if_pos h]
   unfold tk at hx
   rw [List.getElem?_eq_getElem h] at hx ⊢
   simp only [Option.getD_some] at hx
   rw [hx]
 · rw [if_neg c]
theorem set_none_back {L:SlotsE} {p:Nat} {x:Option (ByteArray × Int)} (h:p < L.length) (hx:tk L p = x):(L.set p none).set p x = L:=by
 rw [List.set_set]; exact set_back h hx
theorem set_move {L:SlotsE} {f a:Nat} {x stale:Option (ByteArray × Int)} (ha:a < L.length) (hx:tk L a = x) (ne:f ≠ a):((L.set f x).set a none).set a x = (L.set f stale).set f x:=by
 rw [List.set_set,List.set_set]
 exact set_back (by simpa using ha) (by rw [tk_set_ne ne]; exact hx)
theorem tk_take {L:SlotsE} {i p:Nat} {x:ByteArray × Int} (h:tk (L.take i) p = some x):tk L p = some x:=by
 have hl:=tk_lt h
 unfold tk at h ⊢
 rw [List.getElem?_take] at h
 split at h
 · exact h
 · cases h
theorem moved_cnt {L M:SlotsE} {i:Nat} (g:Inv homeE L) (h:Moved homeE (L.take i) (List.replicate (2 * L.length) none) M):cnt M ≤ i ∧ M.length = 2 * L.length:=by
 obtain ⟨r1,r2,r3⟩:=h.inv homeE_lt (Inv.empty _) (fun a b k v u e1 e2 => g.key homeE_lt (tk_take e1) (tk_take e2)) (fun a k v u _ ⟨p,hp⟩ => by rw [tk_replicate] at hp; cases hp)
 rw [cnt_replicate] at r2
 have:=cnt_le (L.take i)
 have:=List.length_take_le i L
 exact ⟨by omega,by rw [h.length,List.length_replicate]⟩
theorem moved_look {L M:SlotsE} {i:Nat} (g:Inv homeE L) (hi:i < L.length) (h:Moved homeE (L.take i) (List.replicate (2 * L.length) none) M) (k:ByteArray):∃ p,IsLook homeE M k p:=by
 obtain ⟨a,b⟩:=moved_cnt g h
 obtain ⟨f,hf,e⟩:=cnt_free M (by omega)
 exact look_exists homeE_lt k hf e
theorem take_slot {L:SlotsE} {i:Nat} (h:i < L.length) {x:Option (ByteArray × Int)} (hx:tk L i = x):L.take (i + 1) = L.take i ++ [x]:=by
 rw [List.take_succ_eq_append_getElem h]
 unfold tk at hx
 rw [List.getElem?_eq_getElem h] at hx
 simp only [Option.getD_some] at hx
 rw [hx]
end Go.Proofs.YtbnpelciceblfaaGreat
