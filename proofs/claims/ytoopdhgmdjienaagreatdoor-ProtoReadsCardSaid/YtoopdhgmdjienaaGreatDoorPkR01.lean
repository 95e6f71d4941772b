/- Base TMath Strs -/
import Derived.WalkSpells
import Derived.Deep.Draws
import Derived.Lib.Hide
import Derived.Deep.RegionHeld
namespace Go.Proofs.YtoopdhgmdjienaaGreatDoor
set_option linter.unusedVariables false
open Go.RowKit Go.ChangeShapes Go.WideShapes
set_option maxHeartbeats 64000000
theorem new2 (w:World) (u v:Value) (t:TypeId) :
 (w.alloc (.cells #[u,v] t)).cell? ⟨w.heap.size,0,none⟩ = some u ∧ (w.alloc (.cells #[u,v] t)).cell? ⟨w.heap.size,1,none⟩ = some v ∧
 (w.alloc (.cells #[u,v] t)).frozen? ⟨w.heap.size,0,none⟩ = false ∧ (w.alloc (.cells #[u,v] t)).frozen? ⟨w.heap.size,1,none⟩ = false:=by
 refine ⟨?_,?_,?_,?_⟩ <;> simp [go_sem]
theorem csame {w:World} {a:Addr} {u v:Value} (h:w.cell? a = some u):(w.setCell a v).cell? a = some v:=World.cell?_setCell_same' w a v (by rw [h]; rfl)
theorem cother {w:World} {a b:Addr} {v:Value} (h:a ≠ b):(w.setCell a v).cell? b = w.cell? b:=by
 first | exact World.cell?_setCell_other h | exact World.cell?_setCell_other _ _ _ _ h | exact World.cell?_setCell_other _ _ h | exact World.cell?_setCell_other _ h
theorem kalloc {w:World} {a:Addr} {v:Value} {o:Obj} (h:w.cell? a = some v):(w.alloc o).cell? a = some v:=(World.cell?_alloc_some w a o (by rw [h]; rfl)).trans h
def Wider (W w:World):Prop:=W.keptBut w (fun _ => False) ∧ W.heap.size ≤ w.heap.size
theorem Wider.refl (W:World):Wider W W:=⟨World.keptBut_refl _ _,Nat.le_refl _⟩
theorem Wider.trans {a b c:World} (h:Wider a b) (k:Wider b c):Wider a c:=⟨World.keptBut_trans h.1 k.1,Nat.le_trans h.2 k.2⟩
theorem Wider.alloc {W w:World} (h:Wider W w) (o:Obj):Wider W (w.alloc o) :=
 ⟨World.keptBut_trans h.1 (World.keptBut_alloc _ _ _),Nat.le_trans h.2 (by show w.heap.size ≤ (w.heap.push _).size; simp)⟩
theorem Wider.drew {W w:World} (h:Wider W w):Wider W w.drew:=h
theorem Wider.drewN {W w:World} (h:Wider W w) (n:Nat):Wider W (w.drewN n):=h
theorem Wider.setCell {W w:World} (h:Wider W w) {a:Addr} (ha:W.heap.size ≤ a.block) (v:Value):Wider W (w.setCell a v):=by
 obtain ⟨⟨h1,h2,h3⟩,hs⟩:=h
 refine ⟨⟨h1,h2,fun i hi => ?_⟩,by simpa [World.setCell] using hs⟩
 have e:(w.setCell a v).heap[i]? = w.heap[i]? :=by
  simp only [World.setCell,Array.getElem?_modify]
  rw [if_neg (by omega)]
 rw [e]
 exact h3 i hi
theorem wlt {W:World} {a:Addr} {v:Value} (hc:W.cell? a = some v):a.block < W.heap.size:=by
 rcases Nat.lt_or_ge a.block W.heap.size with h | h
 · exact h
 · have e:W.heap[a.block]? = none:=by simp; omega
   simp [World.cell?,e] at hc
theorem wkeep {W w:World} (h:Wider W w) {a:Addr} {v:Value} (hc:W.cell? a = some v):w.cell? a = some v:=by
 have hlt:=wlt hc
 obtain ⟨⟨_,_,hb⟩,_⟩:=h
 have k:=hb a.block hlt
 unfold World.cell? at hc ⊢
 revert k hc
 cases W.heap[a.block]? with
 | none => intro hc; simp at hc
 | some o =>
   cases o with
   | cells c t fr =>
     cases w.heap[a.block]? with
     | none => intro hc k; simp at k
     | some o' =>
       cases o' with
       | cells c' t' fr' =>
         intro hc k
         dsimp only at hc k ⊢
         rw [k.2.2.2 a.off (fun f => f)]
         exact hc
       | _ => intro hc k; simp at k
   | _ => intro hc; simp at hc
theorem wfree {W w:World} (h:Wider W w) {a:Addr} {v:Value} (hc:W.cell? a = some v) (hf:W.frozen? a = false):w.frozen? a = false:=by
 have hlt:=wlt hc
 obtain ⟨⟨_,_,hb⟩,_⟩:=h
 have k:=hb a.block hlt
 unfold World.cell? at hc
 unfold World.frozen? at hf ⊢
 revert k hc hf
 cases W.heap[a.block]? with
 | none => intro hc; simp at hc
 | some o =>
   cases o with
   | cells c t fr =>
     cases w.heap[a.block]? with
     | none => intro hc hf k; simp at k
     | some o' =>
       cases o' with
       | cells c' t' fr' =>
         intro hc hf k
         dsimp only at hf k ⊢
         rw [k.2.1]
         exact hf
       | _ => intro hc hf k; simp at k
   | _ => intro hc; simp at hc
theorem wheap {W w:World} (h:Wider W w) {i:Nat} (hi:i < W.heap.size):w.heap[i]? = W.heap[i]? :=by
 obtain ⟨⟨_,_,hb⟩,_⟩:=h
 have k:=hb i hi
 revert k
 cases W.heap[i]? with
 | none =>
   intro k
   cases hw:w.heap[i]? with
   | none => rfl
   | some o => rw [hw] at k; simp at k
 | some o =>
   cases o with
   | cells c t fr =>
     cases w.heap[i]? with
     | none => intro k; simp at k
     | some o' =>
       cases o' with
       | cells c' t' fr' =>
         intro k
         dsimp only at k
         obtain ⟨k1,k2,k3,k4⟩:=k
         have e:c' = c:=by
          apply Array.ext_getElem?
          intro j
          exact k4 j (fun f => f)
         rw [k1,k2,e]
       | _ => intro k; simp at k
   | map es cl =>
     cases w.heap[i]? with
     | none => intro k; simp at k
     | some o' =>
       cases o' with
       | map es' cl' =>
         intro k
         dsimp only at k
         rcases k with k | ⟨k1,k2⟩
         · exact k.elim
         · rw [k1,k2]
       | _ => intro k; simp at k
   | _ =>
     cases w.heap[i]? with
     | none => intro k; simp at k
     | some o' => intro k; simpa using k
theorem post_of_none {H:Type} {enc:TypeId × Value → H} {P:Program} {f:Func} {s:ChangeSpec} {apart fresh handsOn again:Bool} {W W':World} {args:Array Value} {v:Value} {ds gs:List (DataW H)}
 (hW:DataW.Whole enc P f.params.toList s.vars apart W args.toList ds gs [])
 (hres:∀ (b:Nat) (sp:Nat → Bool) (hd:Bool),DataW.TrodAll enc P W' b sp hd f.resultTypes.toList (v.resultList f.resultTypes.size) (s.fn H (ds ++ gs)).results [])
 (hargs:∀ sp:Nat → Bool,DataW.TrodAll enc P W' 0 sp true f.params.toList args.toList (s.fn H (ds ++ gs)).args [])
 (hvars:∀ sp:Nat → Bool,DataW.TrodVars enc P W' sp s.vars (s.fn H (ds ++ gs)).vars [])
 (hk:W.keptBut W' (fun _ => False))
 (hok:∀ (j:Nat) (t:TypeId) (r:Value),f.resultTypes[j]? = some t → (v.resultList f.resultTypes.size)[j]? = some r → Value.okWide P W' .any 0 t r) :
 s.post enc P f apart fresh handsOn again W args v W':=by
 refine ⟨ds,gs,[],[],[],[],hW,hres _ _ _,hargs _,hvars _,World.keptBut_mono (fun p hp => hp.elim) hk,fun _ => ?_⟩
 refine ⟨hok,_,_,([] ++ []) ++ [],⟨[] ++ [],[],trodAll_append (hargs _) (hres _ _ _),hvars _,rfl,?_,?_⟩,?_⟩
 · intro b off hp; simp at hp
 · intro ha; simp
 · intro p hp _; simp at hp
theorem htrans {V W w:World} (h:Hid (Wider V W)) (g:Wider W w):Hid (Wider V w):=h.out.trans g
end Go.Proofs.YtoopdhgmdjienaaGreatDoor
namespace Go.Proofs.YtoopdhgmdjienaaGreatDoor
set_option linter.unusedVariables false
set_option maxHeartbeats 64000000
def mkB (l:List UInt8):ByteArray:=⟨l.toArray⟩
theorem mkB_data (l:List UInt8):(mkB l).data.toList = l:=by simp [mkB]
theorem mkB_size (l:List UInt8):(mkB l).size = l.length:=by simp [mkB,ByteArray.size]
theorem mkB_of (s:ByteArray):mkB s.data.toList = s:=by cases s; simp [mkB]
theorem mkB_inj {l m:List UInt8} (h:mkB l = mkB m):l = m:=by rw [← mkB_data l,h,mkB_data]
theorem size_data (s:ByteArray):s.size = s.data.toList.length:=by simp
theorem rev_ind {α:Type} {p:List α → Prop} (nil:p []) (snoc:∀ l b,p l → p (l ++ [b])) (l:List α):p l:=by
 rw [← List.reverse_reverse l]
 induction l.reverse with
 | nil => exact nil
 | cons b l ih => rw [List.reverse_cons]; exact snoc _ _ ih
structure AtN where
 t:Nat
 v:ByteArray
def wordB (n:Nat):List UInt8:=[UInt8.ofNat (n / 256),UInt8.ofNat (n % 256)]
theorem ofNat_toNat8 (n:Nat) (h:n < 256):(UInt8.ofNat n).toNat = n:=by simp [UInt8.toNat_ofNat']; omega
def unword (a b:UInt8):Nat:=a.toNat * 256 + b.toNat
theorem unword_lt (a b:UInt8):unword a b < 65536:=by have:=a.toNat_lt; have:=b.toNat_lt; unfold unword; omega
theorem unword_word (n:Nat) (h:n < 65536):unword (UInt8.ofNat (n / 256)) (UInt8.ofNat (n % 256)) = n:=by
 unfold unword; rw [ofNat_toNat8 _ (by omega),ofNat_toNat8 _ (by omega)]; omega
theorem word_unword (a b:UInt8):wordB (unword a b) = [a,b]:=by
 have ha:=a.toNat_lt; have hb:=b.toNat_lt
 unfold wordB
 have e1:unword a b / 256 = a.toNat:=by unfold unword; omega
 have e2:unword a b % 256 = b.toNat:=by unfold unword; omega
 rw [e1,e2]; simp
def bytA (a:AtN):List UInt8:=UInt8.ofNat a.t :: (wordB a.v.size ++ a.v.data.toList)
theorem bytA_length (a:AtN):(bytA a).length = 3 + a.v.size:=by simp [bytA,wordB]; omega
def bytsA (l:List AtN):List UInt8:=l.flatMap bytA
theorem bytsA_nil:bytsA [] = []:=rfl
theorem bytsA_cons (a:AtN) (l:List AtN):bytsA (a :: l) = bytA a ++ bytsA l:=by simp [bytsA]
theorem bytsA_append (l m:List AtN):bytsA (l ++ m) = bytsA l ++ bytsA m:=by simp [bytsA]
theorem bytsA_snoc (l:List AtN) (a:AtN):bytsA (l ++ [a]) = bytsA l ++ bytA a:=by rw [bytsA_append]; simp [bytsA]
def okA:Nat → List AtN → Nat
 | _,[] => 0
 | last,a :: l => if a.t ≤ last ∨ a.v.size = 0 then 3 else if 65535 < a.v.size then 5 else okA a.t l
def lastA (last:Nat) (l:List AtN):Nat:=(l.getLast?.map AtN.t).getD last
theorem lastA_nil (last:Nat):lastA last [] = last:=rfl
theorem lastA_cons (last:Nat) (a:AtN) (l:List AtN):lastA last (a :: l) = lastA a.t l:=by
 cases l with
 | nil => rfl
 | cons b l =>
   simp only [lastA,List.getLast?_cons_cons]
   rw [List.getLast?_eq_some_getLast (List.cons_ne_nil b l)]; rfl
theorem lastA_snoc (last:Nat) (l:List AtN) (a:AtN):lastA last (l ++ [a]) = a.t:=by simp [lastA]
theorem okA_append:∀ (l:List AtN) (last:Nat) (m:List AtN),okA last (l ++ m) = if okA last l = 0 then okA (lastA last l) m else okA last l:=by
 intro l
 induction l with
 | nil => intro last m; simp [okA,lastA_nil]
 | cons a l ih =>
   intro last m
   rw [List.cons_append,lastA_cons]
   simp only [okA]
   split
   · simp
   · split
     · simp
     · exact ih a.t m
theorem okA_snoc (l:List AtN) (last:Nat) (a:AtN) (h:okA last l = 0):okA last (l ++ [a]) = if a.t ≤ lastA last l ∨ a.v.size = 0 then 3 else if 65535 < a.v.size then 5 else 0:=by
 rw [okA_append,if_pos h]; simp [okA]
def encA (l:List AtN):ByteArray:=if okA 0 l = 0 then mkB (bytsA l) else ⟨#[]⟩
def decA (acc:List AtN) (last:Nat) (s:List UInt8):List AtN × Nat :=
 if s.length = 0 then (acc,0)
 else if s.length < 3 then ([],4)
 else if (s.getD 0 0).toNat ≤ last ∨ unword (s.getD 1 0) (s.getD 2 0) = 0 then ([],3)
 else if s.length < 3 + unword (s.getD 1 0) (s.getD 2 0) then ([],4)
 else decA (acc ++ [⟨(s.getD 0 0).toNat,mkB ((s.drop 3).take (unword (s.getD 1 0) (s.getD 2 0)))⟩]) (s.getD 0 0).toNat (s.drop (3 + unword (s.getD 1 0) (s.getD 2 0)))
termination_by s.length
decreasing_by simp; omega
theorem decA_nil (acc:List AtN) (last:Nat):decA acc last [] = (acc,0):=by rw [decA]; simp
theorem decA_some (acc:List AtN) (last:Nat) (t a b:UInt8) (s:List UInt8):decA acc last (t :: a :: b :: s) =
 if t.toNat ≤ last ∨ unword a b = 0 then ([],3) else if s.length < unword a b then ([],4) else decA (acc ++ [⟨t.toNat,mkB (s.take (unword a b))⟩]) t.toNat (s.drop (unword a b)):=by
 rw [decA]
 have e:¬ (t :: a :: b :: s).length = 0:=by simp
 have e2:¬ (t :: a :: b :: s).length < 3:=by simp
 rw [if_neg e,if_neg e2]
 simp only [List.getD_cons_zero,List.getD_cons_succ]
 have e3:(t :: a :: b :: s).drop (3 + unword a b) = s.drop (unword a b):=by rw [← List.drop_drop]; rfl
 have e4:((t :: a :: b :: s).length < 3 + unword a b) ↔ s.length < unword a b:=by simp; omega
 rw [e3,show (t :: a :: b :: s).drop 3 = s from rfl]
 by_cases c:t.toNat ≤ last ∨ unword a b = 0
 · rw [if_pos c,if_pos c]
 · rw [if_neg c,if_neg c]
   by_cases d:s.length < unword a b
   · rw [if_pos d,if_pos (e4.2 d)]
   · rw [if_neg d,if_neg (fun h => d (e4.1 h))]
theorem decA_short (acc:List AtN) (last:Nat) (s:List UInt8) (h0:s ≠ []) (h:s.length < 3):decA acc last s = ([],4):=by
 rw [decA,if_neg (by intro e; exact h0 (List.eq_nil_of_length_eq_zero e)),if_pos h]
theorem three (s:List UInt8) (h:3 ≤ s.length):∃ t a b r,s = t :: a :: b :: r:=by
 match s,h with
 | t :: a :: b :: r,_ => exact ⟨t,a,b,r,rfl⟩
theorem decA_enc:∀ (l:List AtN) (acc:List AtN) (last:Nat) (rest:List UInt8),okA last l = 0 → (∀ a ∈ l,a.t < 256) → decA acc last (bytsA l ++ rest) = decA (acc ++ l) (lastA last l) rest:=by
 intro l
 induction l with
 | nil => intro acc last rest _ _; simp [bytsA_nil,lastA_nil]
 | cons a l ih =>
   intro acc last rest h ht
   simp only [okA] at h
   split at h
   · omega
   · split at h
     · omega
     · rename_i c d
       have ta:a.t < 256:=ht a (by simp)
       rw [bytsA_cons]
       show decA acc last (UInt8.ofNat a.t :: UInt8.ofNat (a.v.size / 256) :: UInt8.ofNat (a.v.size % 256) :: (a.v.data.toList ++ bytsA l ++ rest)) = _
       rw [decA_some,unword_word _ (by omega),ofNat_toNat8 _ ta,if_neg c,if_neg (by simp)]
       have e1:(a.v.data.toList ++ bytsA l ++ rest).take a.v.size = a.v.data.toList:=by rw [List.append_assoc,List.take_left' (by simp)]
       have e2:(a.v.data.toList ++ bytsA l ++ rest).drop a.v.size = bytsA l ++ rest:=by rw [List.append_assoc,List.drop_left' (by simp)]
       rw [e1,e2,mkB_of,lastA_cons]
       rw [ih _ _ _ h (fun b hb => ht b (by simp [hb]))]
       simp
theorem decA_inv:∀ (n:Nat) (s:List UInt8),s.length = n → ∀ (acc:List AtN) (last:Nat) (m:List AtN),decA acc last s = (m,0) →
 ∃ l,m = acc ++ l ∧ s = bytsA l ∧ okA last l = 0 ∧ ∀ a ∈ l,a.t < 256:=by
 intro n
 induction n using Nat.strongRecOn with
 | ind n ih =>
   intro s hs acc last m h
   by_cases c0:s = []
   · subst c0
     rw [decA_nil] at h
     obtain ⟨rfl,_⟩:=Prod.mk.injEq .. ▸ h
     exact ⟨[],by simp,rfl,rfl,by simp⟩
   · by_cases c1:s.length < 3
     · rw [decA_short _ _ _ c0 c1] at h; simp at h
     · obtain ⟨t,a,b,r,rfl⟩:=three s (by omega)
       rw [decA_some] at h
       split at h
       · simp at h
       · split at h
         · simp at h
         · rename_i c d
           obtain ⟨l,e1,e2,e3,e4⟩:=ih (r.drop (unword a b)).length (by subst hs; simp; omega) _ rfl _ _ _ h
           refine ⟨⟨t.toNat,mkB (r.take (unword a b))⟩ :: l,by simp [e1],?_,?_,?_⟩
           · rw [bytsA_cons,← e2]
             have e:(mkB (r.take (unword a b))).size = unword a b:=by rw [mkB_size]; simp; omega
             simp only [bytA,e,word_unword,mkB_data]
             simp
           · have hu:=unword_lt a b
             have hz:(mkB (r.take (unword a b))).size = unword a b:=by rw [mkB_size]; simp; omega
             show (if t.toNat ≤ last ∨ (mkB (r.take (unword a b))).size = 0 then 3 else if 65535 < (mkB (r.take (unword a b))).size then 5 else okA t.toNat l) = 0
             rw [hz,if_neg c,if_neg (by omega)]; exact e3
           · intro x hx
             rcases List.mem_cons.1 hx with rfl | hx
             · exact t.toNat_lt
             · exact e4 x hx
theorem decA_bad:∀ (n:Nat) (s:List UInt8),s.length = n → ∀ (acc:List AtN) (last:Nat),(decA acc last s).2 = 0 ∨ (decA acc last s).1 = []:=by
 intro n
 induction n using Nat.strongRecOn with
 | ind n ih =>
   intro s hs acc last
   by_cases c0:s = []
   · subst c0; rw [decA_nil]; exact .inl rfl
   · by_cases c1:s.length < 3
     · rw [decA_short _ _ _ c0 c1]; exact .inr rfl
     · obtain ⟨t,a,b,r,rfl⟩:=three s (by omega)
       rw [decA_some]
       split
       · exact .inr rfl
       · split
         · exact .inr rfl
         · exact ih _ (by subst hs; simp; omega) _ rfl _ _
def bytT (s:ByteArray):List UInt8:=wordB s.size ++ s.data.toList
theorem bytT_length (s:ByteArray):(bytT s).length = 2 + s.size:=by simp [bytT,wordB]; omega
def bytsT (l:List ByteArray):List UInt8:=l.flatMap bytT
theorem bytsT_nil:bytsT [] = []:=rfl
theorem bytsT_cons (a:ByteArray) (l:List ByteArray):bytsT (a :: l) = bytT a ++ bytsT l:=by simp [bytsT]
theorem bytsT_append (l m:List ByteArray):bytsT (l ++ m) = bytsT l ++ bytsT m:=by simp [bytsT]
theorem bytsT_snoc (l:List ByteArray) (a:ByteArray):bytsT (l ++ [a]) = bytsT l ++ bytT a:=by rw [bytsT_append]; simp [bytsT]
def okT:List ByteArray → Nat
 | [] => 0
 | s :: l => if 65535 < s.size then 5 else okT l
theorem okT_append (l m:List ByteArray):okT (l ++ m) = if okT l = 0 then okT m else okT l:=by
 induction l with
 | nil => simp [okT]
 | cons s l ih => rw [List.cons_append]; simp only [okT]; split; simp; exact ih
theorem okT_snoc (l:List ByteArray) (s:ByteArray) (h:okT l = 0):okT (l ++ [s]) = if 65535 < s.size then 5 else 0:=by
 rw [okT_append,if_pos h]; simp [okT]
def encT (l:List ByteArray):ByteArray:=if okT l = 0 then mkB (bytsT l) else ⟨#[]⟩
def decT (acc:List ByteArray) (most:Int) (s:List UInt8):List ByteArray × Nat :=
 if s.length = 0 then (acc,0)
 else if s.length < 2 then ([],4)
 else if most ≤ (acc.length:Int) then ([],3)
 else if s.length < 2 + unword (s.getD 0 0) (s.getD 1 0) then ([],4)
 else decT (acc ++ [mkB ((s.drop 2).take (unword (s.getD 0 0) (s.getD 1 0)))]) most (s.drop (2 + unword (s.getD 0 0) (s.getD 1 0)))
termination_by s.length
decreasing_by simp; omega
theorem decT_nil (acc:List ByteArray) (most:Int):decT acc most [] = (acc,0):=by rw [decT]; simp
theorem decT_some (acc:List ByteArray) (most:Int) (a b:UInt8) (s:List UInt8):decT acc most (a :: b :: s) =
 if most ≤ (acc.length:Int) then ([],3) else if s.length < unword a b then ([],4) else decT (acc ++ [mkB (s.take (unword a b))]) most (s.drop (unword a b)):=by
 rw [decT]
 have e:¬ (a :: b :: s).length = 0:=by simp
 have e2:¬ (a :: b :: s).length < 2:=by simp
 rw [if_neg e,if_neg e2]
 simp only [List.getD_cons_zero,List.getD_cons_succ]
 have e3:(a :: b :: s).drop (2 + unword a b) = s.drop (unword a b):=by rw [← List.drop_drop]; rfl
 have e4:((a :: b :: s).length < 2 + unword a b) ↔ s.length < unword a b:=by simp; omega
 rw [e3,show (a :: b :: s).drop 2 = s from rfl]
 by_cases c:most ≤ (acc.length:Int)
 · rw [if_pos c,if_pos c]
 · rw [if_neg c,if_neg c]
   by_cases d:s.length < unword a b
   · rw [if_pos d,if_pos (e4.2 d)]
   · rw [if_neg d,if_neg (fun h => d (e4.1 h))]
theorem decT_short (acc:List ByteArray) (most:Int) (s:List UInt8) (h0:s ≠ []) (h:s.length < 2):decT acc most s = ([],4):=by
 rw [decT,if_neg (by intro e; exact h0 (List.eq_nil_of_length_eq_zero e)),if_pos h]
theorem pair2 (s:List UInt8) (h:2 ≤ s.length):∃ a b r,s = a :: b :: r:=by
 match s,h with
 | a :: b :: r,_ => exact ⟨a,b,r,rfl⟩
theorem decT_enc:∀ (l:List ByteArray) (acc:List ByteArray) (most:Int) (rest:List UInt8),okT l = 0 → ((acc.length + l.length:Nat):Int) ≤ most → decT acc most (bytsT l ++ rest) = decT (acc ++ l) most rest:=by
 intro l
 induction l with
 | nil => intro acc most rest _ _; simp [bytsT_nil]
 | cons a l ih =>
   intro acc most rest h hm
   simp only [okT] at h
   split at h
   · omega
   · rename_i d
     rw [bytsT_cons]
     show decT acc most (UInt8.ofNat (a.size / 256) :: UInt8.ofNat (a.size % 256) :: (a.data.toList ++ bytsT l ++ rest)) = _
     have e1:(a.data.toList ++ bytsT l ++ rest).take a.size = a.data.toList:=by rw [List.append_assoc,List.take_left' (by simp)]
     have e2:(a.data.toList ++ bytsT l ++ rest).drop a.size = bytsT l ++ rest:=by rw [List.append_assoc,List.drop_left' (by simp)]
     rw [decT_some,unword_word _ (by omega),if_neg (by simp only [List.length_cons] at hm; omega),if_neg (by simp),e1,e2,mkB_of]
     rw [ih _ _ _ h (by simp only [List.length_append,List.length_cons,List.length_nil] at hm ⊢; omega)]
     simp
theorem decT_inv:∀ (n:Nat) (s:List UInt8),s.length = n → ∀ (acc:List ByteArray) (most:Int) (m:List ByteArray),decT acc most s = (m,0) →
 ∃ l,m = acc ++ l ∧ s = bytsT l ∧ okT l = 0 ∧ (l = [] ∨ (m.length:Int) ≤ most):=by
 intro n
 induction n using Nat.strongRecOn with
 | ind n ih =>
   intro s hs acc most m h
   by_cases c0:s = []
   · subst c0
     rw [decT_nil] at h
     obtain ⟨rfl,_⟩:=Prod.mk.injEq .. ▸ h
     exact ⟨[],by simp,rfl,rfl,.inl rfl⟩
   · by_cases c1:s.length < 2
     · rw [decT_short _ _ _ c0 c1] at h; simp at h
     · obtain ⟨a,b,r,rfl⟩:=pair2 s (by omega)
       rw [decT_some] at h
       split at h
       · simp at h
       · split at h
         · simp at h
         · rename_i c d
           obtain ⟨l,e1,e2,e3,e4⟩:=ih (r.drop (unword a b)).length (by subst hs; simp; omega) _ rfl _ _ _ h
           refine ⟨mkB (r.take (unword a b)) :: l,by simp [e1],?_,?_,.inr ?_⟩
           · rw [bytsT_cons,← e2]
             have e:(mkB (r.take (unword a b))).size = unword a b:=by rw [mkB_size]; simp; omega
             simp only [bytT,e,word_unword,mkB_data]
             simp
           · have hu:=unword_lt a b
             have hz:(mkB (r.take (unword a b))).size = unword a b:=by rw [mkB_size]; simp; omega
             show (if 65535 < (mkB (r.take (unword a b))).size then 5 else okT l) = 0
             rw [hz,if_neg (by omega)]; exact e3
           · rcases e4 with rfl | e4
             · rw [e1]; simp; omega
             · exact e4
def numB (n:Nat):List UInt8:=if n = 0 then [] else numB (n / 256) ++ [UInt8.ofNat (n % 256)]
termination_by n
decreasing_by omega
theorem numB_0:numB 0 = []:=by rw [numB]; simp
theorem numB_pos (n:Nat) (h:n ≠ 0):numB n = numB (n / 256) ++ [UInt8.ofNat (n % 256)]:=by rw [numB,if_neg h]
def readB (l:List UInt8):Nat:=l.foldl (fun a b => a * 256 + b.toNat) 0
theorem readB_snoc (l:List UInt8) (b:UInt8):readB (l ++ [b]) = readB l * 256 + b.toNat:=by simp [readB]
theorem readB_nil:readB [] = 0:=rfl
theorem readB_numB (n:Nat):readB (numB n) = n:=by
 induction n using Nat.strongRecOn with
 | ind n ih =>
   by_cases h:n = 0
   · subst h; rw [numB_0]; rfl
   · rw [numB_pos n h,readB_snoc,ih (n / 256) (by omega),ofNat_toNat8 _ (by omega)]; omega
theorem readB_lt (l:List UInt8):readB l < 256 ^ l.length:=by
 induction l using rev_ind with
 | nil => simp [readB]
 | snoc l b ih =>
   have hb:=b.toNat_lt
   rw [readB_snoc,List.length_append,List.length_singleton,Nat.pow_succ]
   omega
theorem numB_len_le (n k:Nat) (h:n < 256 ^ k):(numB n).length ≤ k:=by
 induction k generalizing n with
 | zero => have:n = 0:=by simpa using h
           subst this; rw [numB_0]; simp
 | succ k ih =>
   by_cases h0:n = 0
   · subst h0; rw [numB_0]; simp
   · rw [numB_pos n h0,List.length_append,List.length_singleton]
     have:n / 256 < 256 ^ k:=by rw [Nat.pow_succ] at h; omega
     have:=ih _ this
     omega
theorem numB_len (n:Nat) (h:n < 18446744073709551616):(numB n).length ≤ 8:=numB_len_le n 8 (by simpa using h)
theorem numB_head (n:Nat) (h:n ≠ 0):∃ b l,numB n = b :: l ∧ b ≠ 0:=by
 induction n using Nat.strongRecOn with
 | ind n ih =>
   rw [numB_pos n h]
   by_cases d:n / 256 = 0
   · rw [d,numB_0]
     refine ⟨_,[],rfl,?_⟩
     intro e
     have:=congrArg UInt8.toNat e
     rw [ofNat_toNat8 _ (by omega)] at this
     simp at this; omega
   · obtain ⟨b,l,e,hb⟩:=ih (n / 256) (by omega) d
     exact ⟨b,l ++ [UInt8.ofNat (n % 256)],by rw [e]; rfl,hb⟩
theorem numB_readB (l:List UInt8):(∀ b m,l = b :: m → b ≠ 0) → numB (readB l) = l:=by
 induction l using rev_ind with
 | nil => intro _; rw [readB_nil,numB_0]
 | snoc l b ih =>
   intro h
   have hb:=b.toNat_lt
   have h0:readB (l ++ [b]) ≠ 0:=by
    rw [readB_snoc]
    cases l with
    | nil =>
      have:=h b [] rfl
      intro e
      apply this
      have e2:b.toNat = 0:=by simpa [readB] using e
      exact UInt8.toNat_inj.1 e2
    | cons c l =>
      intro e
      have e1:readB (c :: l) = 0:=by omega
      have e2:=ih (fun x m q => h x (m ++ [b]) (by rw [q]; rfl))
      rw [e1,numB_0] at e2
      cases e2
   rw [numB_pos _ h0,readB_snoc]
   have e1:(readB l * 256 + b.toNat) / 256 = readB l:=by omega
   have e2:(readB l * 256 + b.toNat) % 256 = b.toNat:=by omega
   rw [e1,e2,ih (fun x m q => h x (m ++ [b]) (by rw [q]; rfl))]
   simp
def rnumN (s:List UInt8) (most:Nat):Nat × Nat :=
 if 8 < s.length ∨ s.head? = some 0 then (0,3) else if most < readB s then (0,3) else (readB s,0)
end Go.Proofs.YtoopdhgmdjienaaGreatDoor
namespace Go.Proofs.YtoopdhgmdjienaaGreatDoor
set_option linter.unusedVariables false
open Go.RowKit
set_option maxHeartbeats 64000000
structure StrsAt (w:World) (A:Option Addr) (l:List ByteArray):Prop where
 none_:A = none → l = []
 cell:∀ a,A = some a → ∀ j s,l[j]? = some s → w.cell? (a.add j) = some (.string s)
theorem StrsAt.nil (w:World):StrsAt w none []:=⟨fun _ => rfl,fun a e => by cases e⟩
theorem ba_ext {a b:ByteArray} (h:a.data.toList = b.data.toList):a = b:=by
 have d:=Array.toList_inj.1 h
 cases a; cases b; simpa using d
end Go.Proofs.YtoopdhgmdjienaaGreatDoor
