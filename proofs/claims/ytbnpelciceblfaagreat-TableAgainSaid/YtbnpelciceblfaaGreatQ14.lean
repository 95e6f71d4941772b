/- USetF USetG -/
import Derived.Test.YtbnpelciceblfaaGreatQ13
namespace Go.Proofs.YtbnpelciceblfaaGreat
set_option linter.unusedVariables false
open Go.ChangeShapes Go.WideShapes Go.ChangeAt Go.RowKit Go.Joins Go.Maps Go.ChangeMaps
set_option maxHeartbeats 64000000
structure SetL (s:SetN) (L:List ItN) (N:Nat):Prop where
 good:GoodS s
 all:IsAll s L
 small:∀ x ∈ L,x.key.size < 1000000 ∧ x.mask.size < 1000000
 len:L.length ≤ N
 last:s.last ≤ N
theorem flat_len {s:SetN} {L:List ItN} {N:Nat} (h:SetL s L N):(flatS s.gs).length ≤ N:=by
 have:=len_of h.good h.all
 rw [h.good.items] at this
 have:=h.len
 omega
theorem grp_len {gs:List GrpN} {g:GrpN} (hg:g ∈ gs):g.flat.length ≤ (flatS gs).length:=by
 induction gs with
 | nil => cases hg
 | cons a gs ih =>
   have e:(flatS (a :: gs)).length = a.flat.length + (flatS gs).length:=by rw [show flatS (a :: gs) = a.flat ++ flatS gs from rfl,List.length_append]
   rcases List.mem_cons.1 hg with rfl | hg
   · omega
   · have:=ih hg; omega
theorem gs_len:∀ {gs:List GrpN},(∀ g ∈ gs,GoodG g ∧ g.rows ≠ []) → gs.length ≤ (flatS gs).length
 | [],_ => Nat.zero_le _
 | g :: gs,h => by
   have e:(flatS (g :: gs)).length = g.flat.length + (flatS gs).length:=by rw [show flatS (g :: gs) = g.flat ++ flatS gs from rfl,List.length_append]
   have k:=gs_len (gs:=gs) fun y hy => h y (.tail _ hy)
   have n:=List.length_pos_iff.2 (flat_ne (h g (.head _)).1 (h g (.head _)).2)
   rw [List.length_cons]; omega
theorem rows_len {g:GrpN} (h:GoodG g):g.rows.length ≤ g.flat.length:=by
 have:∀ l:List RowN,(∀ r ∈ l,r.ps ≠ []) → l.length ≤ (flatR l).length:=by
  intro l
  induction l with
  | nil => intro _; exact Nat.zero_le _
  | cons r l ih =>
    intro hl
    have n:=List.length_pos_iff.2 (hl r (.head _))
    have k:=ih fun y hy => hl y (.tail _ hy)
    rw [flatR_cons,List.length_append,List.length_cons]; omega
 exact this g.rows h.ne
theorem get_len {g:GrpN} (h:GoodG g) (k:ByteArray):(getR g.rows k).length ≤ g.flat.length:=by
 have:=(flatR_split h.keys k).length_eq
 rw [List.length_append] at this
 show _ ≤ (flatR g.rows).length
 omega
theorem SetL.few {s:SetN} {L:List ItN} {N:Nat} (h:SetL s L N) (hN:N < 100000):∀ g ∈ s.gs,FewG g:=fun g hg => by
 have:=grp_len hg
 have:=flat_len h
 exact few_of (h.good.good g hg).1 (h.good.good g hg).2 (by omega)
theorem SetL.groups {s:SetN} {L:List ItN} {N:Nat} (h:SetL s L N):s.gs.length ≤ N:=Nat.le_trans (gs_len h.good.good) (flat_len h)
theorem SetL.mask {s:SetN} {L:List ItN} {N:Nat} (h:SetL s L N) {g:GrpN} (hg:g ∈ s.gs):g.mask.size < 1000000:=by
 obtain ⟨gg,rg⟩:=h.good.good g hg
 obtain ⟨p,hp,_⟩:=top_mem gg rg
 have:=(h.small p.x ((umem_all h.all).2 ⟨p,List.mem_flatMap.2 ⟨g,hg,hp⟩,rfl⟩)).2
 rwa [(gg.mem_get hp).2] at this
inductive TakeN (s:SetN) (mask:ByteArray):GrpN → List GrpN → Prop
 | old (A B:List GrpN) (g:GrpN) (e:s.gs = A ++ g :: B) (hm:g.mask = mask):TakeN s mask g (A ++ B)
 | new (b M:Nat) (h:∀ g ∈ s.gs,g.mask ≠ mask):TakeN s mask ⟨b,M,mask,nilU,[],[]⟩ s.gs
theorem utake_1 {V w:World} {R:List Thing} {s:SetN} {L:List ItN} {N:Nat} (H:Own V w (s.things ++ R)) (hl:SetL s L N) (hN:N < 100000) {mask:ByteArray} (hm:mask.size < 1000000) :
 Calls Tryz.prog 139 #[ptrU s.A,.string mask] w fun e w' => ∃ g O u,e = .returned (ptrU g.b) ∧ TakeN s mask g O ∧ Own V w' (({ s with ov:=u,gs:=O } : SetN).things ++ (g.things ++ R)):=by
 by_cases c:∃ g ∈ s.gs,g.mask = mask
 · obtain ⟨g,hg,rfl⟩:=c
   obtain ⟨A,B,e⟩:=List.append_of_mem hg
   refine (utake_old H hl.good (hl.few hN) (by have:=hl.groups; omega) e hm).mono ?_
   rintro e2 w' ⟨u,rfl,H2⟩
   exact ⟨g,A ++ B,u,rfl,.old A B g e rfl,H2⟩
 · have hno:∀ g ∈ s.gs,g.mask ≠ mask:=fun g hg e => c ⟨g,hg,e⟩
   refine (utake_new H hm hno).mono ?_
   rintro e2 w' ⟨b,M,rfl,H2⟩
   exact ⟨_,_,s.ov,rfl,.new b M hno,H2⟩
structure PutN (g:GrpN) (p:PlN) (t:GrpN) (nw:Bool):Prop where
 good:GoodG t
 rows:t.rows ≠ []
 b:t.b = g.b
 mask:t.mask = g.mask
 flat:t.flat.Perm (p :: butN g.flat p.x.key p.x.prio)
 nw:(nw = true ∧ butN g.flat p.x.key p.x.prio = g.flat) ∨ (nw = false ∧ ∃ p0,g.flat.Perm (p0 :: butN g.flat p.x.key p.x.prio) ∧ p0.x.key = p.x.key ∧ p0.x.prio = p.x.prio)
theorem ugput_g {V w:World} {R:List Thing} {g:GrpN} (H:Own V w (g.things ++ R)) (hg:GoodG g) (p:PlN) (hm:p.x.mask = g.mask) (hs:p.x.key.size < 1000000) (hl:g.flat.length < 999999) :
 Calls Tryz.prog 145 #[ptrU g.b,aggP p] w fun e w' => ∃ t nw,e = .returned (.bool nw) ∧ PutN g p t nw ∧ Own V w' (t.things ++ R):=by
 obtain ⟨A,B,had,r⟩:=rank_ex (hg.desc_get p.x.key) p.x.prio
 have l1:=get_len hg p.x.key
 have l2:=rows_len hg
 have l3:=hg.prs.length_eq
 rw [List.length_map] at l3
 cases had with
 | true =>
   obtain ⟨p0,hp0,e⟩ : ∃ p0:PlN,p0.x.prio = p.x.prio ∧ getR g.rows p.x.key = A ++ p0 :: B:=by
    rcases r.perm with ⟨_,p0,h1,h2⟩ | ⟨h,_⟩
    · exact ⟨p0,h1,h2⟩
    · cases h
   refine (ugput_1 H hg p rfl hs (by omega) r).mono ?_
   rintro e2 w' ⟨v,rfl,H2⟩
   obtain ⟨a1,a2,a3⟩:=hg.again (k:=p.x.key) rfl hm e hp0 v r
   refine ⟨_,false,rfl,⟨a1,by simp [setR],rfl,rfl,a2,.inr ⟨rfl,p0,a3,?_,hp0⟩⟩,H2⟩
   exact (hg.of_get (k:=p.x.key) (by rw [e]; exact List.mem_append_right _ (.head _))).1
 | false =>
   obtain ⟨X,Y,hXY,hX,hY⟩:=lower_ex hg.asc p.x.prio
   refine (ugput_2 H hg p rfl hs (by omega) (by omega) (by omega) r hXY hX hY).mono ?_
   rintro e2 w' ⟨v,u,rfl,H2⟩
   obtain ⟨a1,a2,a3⟩:=hg.more (k:=p.x.key) rfl hm v u r hXY hX hY
   refine ⟨_,true,rfl,⟨a1,by simp [setR],rfl,rfl,by rw [a3]; exact a2,.inl ⟨rfl,a3⟩⟩,H2⟩
theorem uenter_1 {V w:World} {R:List Thing} {s:SetN} {g:GrpN} (H:Own V w (s.things ++ (g.things ++ R))) (hO:OrdS s.gs) (hk:∀ x ∈ s.gs,x.mask ≠ g.mask) (hf:∀ y ∈ s.gs,FewG y) (fg:FewG g) (hn:s.gs.length < 999999) (hm:g.mask.size < 1000000) (hnil:s.gm = none → s.gs = []) :
 Calls Tryz.prog 141 #[ptrU s.A,ptrU g.b] w fun e w' => ∃ M u A B,e = .returned (.tuple #[]) ∧ s.gs = A ++ B ∧ OrdS (A ++ g :: B) ∧ Own V w' (({ s with gm:=some M,ov:=u,gs:=A ++ g :: B } : SetN).things ++ R):=by
 obtain ⟨A,B,e,hA,hB⟩:=ord_more hO g
 have hO2:OrdS (A ++ g :: B):=ord_put (by rw [← e]; exact hO) hA hB (by rw [← e]; exact hk)
 obtain ⟨S,gm,ov,gs,items,last⟩:=s
 cases gm with
 | none =>
   refine (uenter_none H hO hk hf fg hn hm e hA hB (hnil rfl)).mono ?_
   rintro e2 w' ⟨M,u,rfl,H2⟩
   exact ⟨M,u,A,B,rfl,e,hO2,H2⟩
 | some M0 =>
   refine (uenter_some H hO hk hf fg hn hm e hA hB).mono ?_
   rintro e2 w' ⟨M,u,rfl,H2⟩
   exact ⟨M,u,A,B,rfl,e,hO2,H2⟩
theorem TakeN.facts {s:SetN} {L:List ItN} {N:Nat} (hl:SetL s L N) {mask:ByteArray} {g:GrpN} {O:List GrpN} (t:TakeN s mask g O) :
 GoodG g ∧ g.mask = mask ∧ OrdS O ∧ MasksS O ∧ (∀ y ∈ O,y ∈ s.gs) ∧ (∀ y ∈ O,y.mask ≠ g.mask) ∧ (flatS s.gs).Perm (g.flat ++ flatS O) ∧ (s.gm = none → O = []):=by
 cases t with
 | old A B g e hm =>
   have h:=hl.good
   have ho:=h.ord
   have hk:=h.masks
   rw [e] at ho hk
   refine ⟨(h.good g (by rw [e]; exact List.mem_append_right _ (.head _))).1,hm,ord_less ho,(masks_less hk).1,fun y hy => ?_,(masks_less hk).2,by rw [e]; exact flatS_mid A B g,fun q => ?_⟩
   · rw [e]
     rcases List.mem_append.1 hy with hy | hy
     · exact List.mem_append_left _ hy
     · exact List.mem_append_right _ (.tail _ hy)
   · have:=h.gm q
     rw [e] at this
     cases A <;> cases this
 | new b M hno =>
   have h:=hl.good
   refine ⟨⟨.nil,by simp,by simp,by simp,.nil,List.Perm.nil⟩,rfl,h.ord,h.masks,fun y hy => hy,hno,List.Perm.refl _,h.gm⟩
theorem butS_take {s:SetN} {L:List ItN} {N:Nat} (hl:SetL s L N) {x:ItN} {g:GrpN} {O:List GrpN} (t:TakeN s x.mask g O):(butP (flatS s.gs) x).Perm (butN g.flat x.key x.prio ++ flatS O):=by
 cases t with
 | old A B g e hm =>
   have h:=hl.good
   have hk:=h.masks
   rw [e] at hk ⊢
   exact butP_mid (by rw [← e]; exact h.good) (masks_less hk).2 (h.good g (by rw [e]; exact List.mem_append_right _ (.head _))).1 x hm.symm
 | new b M hno =>
   rw [butP_none hl.good.good x hno]
   exact List.Perm.refl _
theorem put_good {s:SetN} {L:List ItN} {N:Nat} (hl:SetL s L N) {x:ItN} (hf:FormN x) (hs:x.key.size < 1000000 ∧ x.mask.size < 1000000) {g t:GrpN} {O A B:List GrpN} {nw:Bool} {M:Nat} {u:Value} (tk:TakeN s x.mask g O) (pt:PutN g ⟨x,s.last + 1⟩ t nw) (e:O = A ++ B) (ho:OrdS (A ++ t :: B)) :
 SetL ⟨s.A,some M,u,A ++ t :: B,s.items + (if nw then 1 else 0),s.last + 1⟩ (butL L x ++ [x]) (N + 1):=by
 obtain ⟨gg,gm,oO,mO,sub,ne,fl,_⟩:=tk.facts hl
 have h:=hl.good
 have f1:(flatS (A ++ t :: B)).Perm (t.flat ++ flatS O):=by rw [e]; exact flatS_mid A B t
 have f2:(flatS (A ++ t :: B)).Perm (⟨x,s.last + 1⟩ :: butP (flatS s.gs) x) :=
  f1.trans ((pt.flat.append_right _).trans ((butS_take hl tk).symm.cons _))
 have hall:=all_put (t:=⟨s.A,some M,u,A ++ t :: B,s.items + (if nw then 1 else 0),s.last + 1⟩) hl.all h.last (x:=x) (Nat.lt_succ_self _) f2
 have pl:(⟨x,s.last + 1⟩ :: butP (flatS s.gs) x).Pairwise fun p q => p.pl ≠ q.pl:=by
  refine List.pairwise_cons.2 ⟨fun q hq => ?_,h.places.filter _⟩
  have:=h.last q (List.mem_filter.1 hq).1
  show s.last + 1 ≠ q.pl
  omega
 have ln:(flatS (A ++ t :: B)).length = s.items + (if nw then 1 else 0):=by
  rw [f1.length_eq,List.length_append,pt.flat.length_eq,List.length_cons,h.items,fl.length_eq,List.length_append]
  rcases pt.nw with ⟨rfl,q⟩ | ⟨rfl,p0,q,_⟩
  · rw [q]; simp; omega
  · rw [q.length_eq,List.length_cons]; simp
 refine ⟨⟨fun y hy => ?_,?_,ho,ln.symm,pairwise_ne_of f2.symm pl,fun p hp => ?_,fun p hp => ?_,fun q => (by cases q)⟩,hall,fun y hy => ?_,?_,by have:=hl.last; show s.last + 1 ≤ N + 1; omega⟩
 · have hy2:y = t ∨ y ∈ O:=by
    rw [e]
    rcases List.mem_append.1 hy with hy | hy
    · exact .inr (List.mem_append_left _ hy)
    · rcases List.mem_cons.1 hy with rfl | hy
      · exact .inl rfl
      · exact .inr (List.mem_append_right _ hy)
   rcases hy2 with rfl | hy2
   · exact ⟨pt.good,pt.rows⟩
   · exact h.good y (sub y hy2)
 · exact masks_more (by rw [← e]; exact mO) (by rw [← e,pt.mask]; exact ne)
 · rcases List.mem_cons.1 (f2.mem_iff.1 hp) with rfl | hp
   · exact Nat.le_refl _
   · exact Nat.le_succ_of_le (h.last p (List.mem_filter.1 hp).1)
 · rcases List.mem_cons.1 (f2.mem_iff.1 hp) with rfl | hp
   · exact hf
   · exact h.form p (List.mem_filter.1 hp).1
 · rcases List.mem_append.1 hy with hy | hy
   · exact hl.small y (List.mem_filter.1 hy).1
   · obtain rfl:y = x:=by simpa using hy
     exact hs
 · rw [List.length_append]
   have:=List.length_filter_le (fun y => decide (¬ SameN y x)) L
   have:=hl.len
   show (butL L x).length + 1 ≤ N + 1
   unfold butL; omega
theorem put_new {s:SetN} {L:List ItN} {N:Nat} (hl:SetL s L N) {x:ItN} {g t:GrpN} {O:List GrpN} {nw:Bool} (tk:TakeN s x.mask g O) (pt:PutN g ⟨x,s.last + 1⟩ t nw):nw = true ↔ ∀ y ∈ L,¬ SameN y x:=by
 obtain ⟨gg,gm,oO,mO,sub,ne,fl,_⟩:=tk.facts hl
 constructor
 · rintro rfl y hy sm
   obtain ⟨p,hp,rfl⟩:=(umem_all hl.all).1 hy
   rcases List.mem_append.1 (fl.mem_iff.1 hp) with hp | hp
   · rcases pt.nw with ⟨_,q⟩ | ⟨q,_⟩
     · rw [← q] at hp
       have:=of_decide_eq_true (List.mem_filter.1 hp).2
       exact this ⟨sm.1,sm.2.2⟩
     · cases q
   · obtain ⟨z,hz,_,e⟩:=mask_of (gs:=O) (fun z hz => hl.good.good z (sub z hz)) hp
     exact ne z hz (e.symm.trans (sm.2.1.trans gm.symm))
 · intro hno
   rcases pt.nw with ⟨q,_⟩ | ⟨q,p0,f,k1,k2⟩
   · exact q
   · exfalso
     have hp:p0 ∈ g.flat:=f.mem_iff.2 (.head _)
     exact hno p0.x ((umem_all hl.all).2 ⟨p0,fl.mem_iff.2 (List.mem_append_left _ hp),rfl⟩) ⟨k1,(gg.mem_get hp).2.trans gm,k2⟩
theorem ugput_n {V w:World} {R:List Thing} {g:GrpN} (H:Own V w (g.things ++ R)) (hg:GoodG g) (x:ItN) (k:Nat) {n:Int} (hn:n = (k:Int)) (hm:x.mask = g.mask) (hs:x.key.size < 1000000) (hl:g.flat.length < 999999) {b:Nat} (hb:g.b = b) :
 Calls Tryz.prog 145 #[.pointer (some ⟨b,0,none⟩),.agg #[.string x.key,.string x.mask,.int .i64 x.prio,.int .i64 x.v,.int .i64 n]] w fun e w' => ∃ t nw,e = .returned (.bool nw) ∧ PutN g ⟨x,k⟩ t nw ∧ Own V w' (t.things ++ R):=by
 subst hn hb
 exact ugput_g H hg ⟨x,k⟩ hm hs hl
theorem few_put {g t:GrpN} {p:PlN} {nw:Bool} (pt:PutN g p t nw) (hl:g.flat.length < 999998):FewG t:=by
 refine few_of pt.good pt.rows ?_
 have:=pt.flat.length_eq
 rw [List.length_cons] at this
 have k:=List.length_filter_le (fun y:PlN => decide (¬ (y.x.key = p.x.key ∧ y.x.prio = p.x.prio))) g.flat
 unfold butN at this
 omega
theorem uenter_n {V w:World} {R:List Thing} {S:Nat} {gm:Option Nat} {ov:Value} {gs:List GrpN} {items last:Nat} {g:GrpN} {b:Nat} (hb:g.b = b) (H:Own V w ((⟨S,gm,ov,gs,items,last⟩ : SetN).things ++ (g.things ++ R))) (hO:OrdS gs) (hk:∀ x ∈ gs,x.mask ≠ g.mask) (hf:∀ y ∈ gs,FewG y) (fg:FewG g) (hn:gs.length < 999999) (hm:g.mask.size < 1000000) (hnil:gm = none → gs = []) :
 Calls Tryz.prog 141 #[.pointer (some ⟨S,0,none⟩),.pointer (some ⟨b,0,none⟩)] w fun e w' => ∃ M u A B,e = .returned (.tuple #[]) ∧ gs = A ++ B ∧ OrdS (A ++ g :: B) ∧ Own V w' ((⟨S,some M,u,A ++ g :: B,items,last⟩ : SetN).things ++ R):=by
 subst hb
 exact uenter_1 H hO hk hf fg hn hm hnil
theorem take_small {s:SetN} {L:List ItN} {N:Nat} (hl:SetL s L N) {mask:ByteArray} {g:GrpN} {O:List GrpN} (t:TakeN s mask g O):g.flat.length ≤ N ∧ O.length ≤ N:=by
 have f:=t.facts hl
 have a:=flat_len hl
 have b:=f.2.2.2.2.2.2.1.length_eq
 rw [List.length_append] at b
 have c:=gs_len (gs:=O) fun y hy => hl.good.good y (f.2.2.2.2.1 y hy)
 omega
set_option maxRecDepth 20000 in
theorem tput_new {V w:World} {R:List Thing} {s:SetN} {L:List ItN} {N:Nat} (H:Own V w (s.things ++ R)) (hl:SetL s L N) (hN:N < 99990) (x:ItN) (hf:FormN x) (hs:x.key.size < 1000000 ∧ x.mask.size < 1000000) (hnew:∀ y ∈ L,¬ SameN y x) :
 Calls Tryz.prog 136 #[ptrU s.A,aggI x] w fun e w' => ∃ t:SetN,t.A = s.A ∧ e = .returned (.int .i64 0) ∧ Own V w' (t.things ++ R) ∧ SetL t (butL L x ++ [x]) (N + 1):=by
 obtain ⟨key,mask,prio,v⟩:=x
 have lb:s.last ≤ 99999:=by have:=hl.last; omega
 have ic:s.items ≤ 99999:=by have:=len_of hl.good hl.all; have:=hl.len; omega
 obtain ⟨S,gm,ov,gs,items,last⟩:=s
 have zm:∀ W,Calls Tryz.prog 134 #[.agg #[.string key,.string mask,.int .i64 prio,.int .i64 v],.string key] W fun e w' => e = .returned (.bool true) ∧ Wider W w':=umatch_c ⟨key,mask,prio,v⟩ key hs.1 (b:=true) ⟨fun _ => hf,fun _ => rfl⟩
 have zo:∀ W,Calls Tryz.prog 143 #[.agg #[.string key,.string mask,.int .i64 prio,.int .i64 v]] W fun e w' => e = .returned (.agg #[.string key,.string mask,.int .i64 prio,.int .i64 v]) ∧ Wider W w':=uown_c ⟨key,mask,prio,v⟩ hs.1 hs.2
 have HL:=Lib.hid hl
 have HF:=Lib.hid (And.intro hf (And.intro hs hnew))
 have HN:=Lib.hid hN
 simp only at lb ic
 have H1:Own V (w.alloc (.cells #[.string key,.string mask,.int .i64 prio,.int .i64 v] 193)) ((⟨S,gm,ov,gs,items,last⟩ : SetN).things ++ (blkT w.heap.size #[.string key,.string mask,.int .i64 prio,.int .i64 v] 193 :: R)):=(H.blk _ _).perm List.perm_middle.symm
 obtain ⟨B3,hB3⟩ : ∃ B3,w.heap.size = B3:=⟨_,rfl⟩
 rw [hB3] at H1
 have ZT:=fun (W:World) (HW:Own V W ((⟨S,gm,ov,gs,items,last⟩ : SetN).things ++ (blkT B3 #[.string key,.string mask,.int .i64 prio,.int .i64 v] 193 :: R))) => utake_1 HW hl (by omega) hs.2
 unfold ptrU at ZT
 simp only at ZT
 obtain ⟨W0,hW0⟩ : ∃ W0,w.alloc (.cells #[.string key,.string mask,.int .i64 prio,.int .i64 v] 193) = W0:=⟨_,rfl⟩
 rw [hW0] at H1
 have y0:=blk_cell (H1.holds _ (List.mem_append_right _ (.head _))) 0 (v:=.string key) rfl
 have y1:=blk_cell (H1.holds _ (List.mem_append_right _ (.head _))) 1 (v:=.string mask) rfl
 have y2:=blk_cell (H1.holds _ (List.mem_append_right _ (.head _))) 2 (v:=.int .i64 prio) rfl
 have y3:=blk_cell (H1.holds _ (List.mem_append_right _ (.head _))) 3 (v:=.int .i64 v) rfl
 show Calls Tryz.prog 136 #[.pointer (some ⟨S,0,none⟩),.agg #[.string key,.string mask,.int .i64 prio,.int .i64 v]] w _
 clear H hl hf hs hnew hN
 go_enter Tryz.func136,Tryz.ntmps136
 go_upto_region 7 with (first
  | (go_at_call 134; ((with_reducible refine (zm _).mono ?_); rintro e w1 ⟨rfl,g1⟩; have H2:=H1.quiet g1; have z1:=wkeep g1 y1; clear H1 g1 y0 y1 y2 y3 zm hW0 hB3))
  | (go_at_call 139; ((with_reducible refine (ZT _ H2).mono ?_); rintro e w2 ⟨g,O,u,rfl,tk,H3⟩; have H3b:Own V w2 (blkT S #[.map gm,u,.int .i64 (items:Int),.int .i64 (last:Int)] 134 :: ordT u O :: gmT gm (entG O) :: (grpsT O ++ (g.things ++ (blkT B3 #[.string key,.string mask,.int .i64 prio,.int .i64 v] 193 :: R)))):=H3; have c3:=blk_cell H3b.head 3 (v:=.int .i64 (last:Int)) rfl; have f3:=blk_free H3b.head 3; have H4:=H3b.store 3 (.int .i64 ((last:Int) + 1)); have TK:=Lib.hid tk; obtain ⟨gb,hgb⟩ : ∃ gb,g.b = gb:=⟨_,rfl⟩; have HGB:=Lib.hid hgb; rw [hgb]; clear ZT H2 H3 H3b tk z1 hgb)))
 obtain ⟨W3,hW3⟩ : ∃ W3,w2.setCell ⟨S,3,none⟩ (.int .i64 ((last:Int) + 1)) = W3:=⟨_,rfl⟩
 rw [hW3] at H4
 try rw [hW3]
 have m3:blkT B3 #[.string key,.string mask,.int .i64 prio,.int .i64 v] 193 ∈ (blkT S (#[.map gm,u,.int .i64 (items:Int),.int .i64 (last:Int)].setIfInBounds 3 (.int .i64 ((last:Int) + 1))) 134 :: ordT u O :: gmT gm (entG O) :: (grpsT O ++ (g.things ++ (blkT B3 #[.string key,.string mask,.int .i64 prio,.int .i64 v] 193 :: R)))):=.tail _ (.tail _ (.tail _ (List.mem_append_right _ (List.mem_append_right _ (.head _)))))
 have d3:=fun q:After W3 => blk_cell (H4.quiet q.h).head 3 (v:=.int .i64 ((last:Int) + 1)) rfl
 have y0:=fun q:After W3 => blk_cell ((H4.quiet q.h).holds _ m3) 0 (v:=.string key) rfl
 have y1:=fun q:After W3 => blk_cell ((H4.quiet q.h).holds _ m3) 1 (v:=.string mask) rfl
 have y2:=fun q:After W3 => blk_cell ((H4.quiet q.h).holds _ m3) 2 (v:=.int .i64 prio) rfl
 have y3:=fun q:After W3 => blk_cell ((H4.quiet q.h).holds _ m3) 3 (v:=.int .i64 v) rfl
 clear hW3 c3 f3
 refine wp_region_after_tail 8 (by kernel_rfl) (by kernel_rfl) (Wider.refl _) ?_
 simp only [List.take_succ_cons,List.take_zero,List.drop_succ_cons,List.drop_zero]
 repeat (go_big_quiet_step (first | (go_at_call 143; exact quiet_after (zo _))))
 refine wpQuiet_nil ?_
 rintro _ ⟨y,rfl⟩
 have H5:Own V y.w ((⟨S,gm,u,O,items,last + 1⟩ : SetN).things ++ (g.things ++ (blkT B3 #[.string key,.string mask,.int .i64 prio,.int .i64 v] 193 :: R))):=H4.quiet y.h
 have H6:=Lib.hid (H5.perm (perm_mid _ _ _))
 have FC:=Lib.hid (TK.out.facts HL.out)
 have SM:=Lib.hid (take_small HL.out TK.out)
 clear d3 y0 y1 y2 y3 m3 H4 H5 zo
 have zp:=ugput_n H6.out FC.out.1 ⟨key,mask,prio,v⟩ (last + 1) (n:=(last:Int) + 1) rfl FC.out.2.1.symm HF.out.2.1.1 (by have:=SM.out.1; have:=HN.out; omega) HGB.out
 go_wp2_with (first
  | (go_at_call 145; ((with_reducible refine zp.mono ?_); rintro e w4 ⟨t,nw,rfl,pt,H7⟩; obtain rfl:nw = true:=((put_new HL.out TK.out pt).2 HF.out.2.2); have PT:=Lib.hid pt; have H8:=H7.perm (perm_mid _ _ _); have H8b:Own V w4 (blkT S #[.map gm,u,.int .i64 (items:Int),.int .i64 ((last:Int) + 1)] 134 :: ordT u O :: gmT gm (entG O) :: (grpsT O ++ (t.things ++ (blkT B3 #[.string key,.string mask,.int .i64 prio,.int .i64 v] 193 :: R)))):=H8; have c2:=blk_cell H8b.head 2 (v:=.int .i64 (items:Int)) rfl; have f2:=blk_free H8b.head 2; have H8c:=Lib.hid (show Own V (w4.setCell ⟨S,2,none⟩ (.int .i64 ((items:Int) + 1))) ((⟨S,gm,u,O,items + 1,last + 1⟩ : SetN).things ++ (t.things ++ (blkT B3 #[.string key,.string mask,.int .i64 prio,.int .i64 v] 193 :: R))) from H8b.store 2 (.int .i64 ((items:Int) + 1))); clear H8 H8b; clear zp H6 H7 pt))
  | (go_at_call 141; ((with_reducible refine (uenter_n (PT.out.b.trans HGB.out) H8c.out FC.out.2.2.1 (by rw [PT.out.mask]; exact FC.out.2.2.2.2.2.1) (fun q hq => HL.out.few (by have:=HN.out; omega) q (FC.out.2.2.2.2.1 q hq)) (few_put PT.out (by have:=SM.out.1; have:=HN.out; omega)) (by have:=SM.out.2; have:=HN.out; omega) (by rw [PT.out.mask,FC.out.2.1]; exact HF.out.2.1.2) FC.out.2.2.2.2.2.2.2).mono ?_); rintro e w5 ⟨M,u2,A,B,rfl,eAB,hO,H9⟩; clear H8c)))
 go_ret
 refine ⟨⟨S,some M,u2,A ++ t :: B,items + 1,last + 1⟩,rfl,rfl,((H9.perm List.perm_middle).drop),?_⟩
 exact put_good HL.out HF.out.1 HF.out.2.1 TK.out PT.out eAB hO
set_option maxRecDepth 20000 in
theorem tput_old {V w:World} {R:List Thing} {s:SetN} {L:List ItN} {N:Nat} (H:Own V w (s.things ++ R)) (hl:SetL s L N) (hN:N < 99990) (x:ItN) (hf:FormN x) (hs:x.key.size < 1000000 ∧ x.mask.size < 1000000) (hnew:∃ y ∈ L,SameN y x) :
 Calls Tryz.prog 136 #[ptrU s.A,aggI x] w fun e w' => ∃ t:SetN,t.A = s.A ∧ e = .returned (.int .i64 0) ∧ Own V w' (t.things ++ R) ∧ SetL t (butL L x ++ [x]) (N + 1):=by
 obtain ⟨key,mask,prio,v⟩:=x
 have lb:s.last ≤ 99999:=by have:=hl.last; omega
 have ic:s.items ≤ 99999:=by have:=len_of hl.good hl.all; have:=hl.len; omega
 obtain ⟨S,gm,ov,gs,items,last⟩:=s
 have zm:∀ W,Calls Tryz.prog 134 #[.agg #[.string key,.string mask,.int .i64 prio,.int .i64 v],.string key] W fun e w' => e = .returned (.bool true) ∧ Wider W w':=umatch_c ⟨key,mask,prio,v⟩ key hs.1 (b:=true) ⟨fun _ => hf,fun _ => rfl⟩
 have zo:∀ W,Calls Tryz.prog 143 #[.agg #[.string key,.string mask,.int .i64 prio,.int .i64 v]] W fun e w' => e = .returned (.agg #[.string key,.string mask,.int .i64 prio,.int .i64 v]) ∧ Wider W w':=uown_c ⟨key,mask,prio,v⟩ hs.1 hs.2
 have HL:=Lib.hid hl
 have HF:=Lib.hid (And.intro hf (And.intro hs hnew))
 have HN:=Lib.hid hN
 simp only at lb ic
 have H1:Own V (w.alloc (.cells #[.string key,.string mask,.int .i64 prio,.int .i64 v] 193)) ((⟨S,gm,ov,gs,items,last⟩ : SetN).things ++ (blkT w.heap.size #[.string key,.string mask,.int .i64 prio,.int .i64 v] 193 :: R)):=(H.blk _ _).perm List.perm_middle.symm
 obtain ⟨B3,hB3⟩ : ∃ B3,w.heap.size = B3:=⟨_,rfl⟩
 rw [hB3] at H1
 have ZT:=fun (W:World) (HW:Own V W ((⟨S,gm,ov,gs,items,last⟩ : SetN).things ++ (blkT B3 #[.string key,.string mask,.int .i64 prio,.int .i64 v] 193 :: R))) => utake_1 HW hl (by omega) hs.2
 unfold ptrU at ZT
 simp only at ZT
 obtain ⟨W0,hW0⟩ : ∃ W0,w.alloc (.cells #[.string key,.string mask,.int .i64 prio,.int .i64 v] 193) = W0:=⟨_,rfl⟩
 rw [hW0] at H1
 have y0:=blk_cell (H1.holds _ (List.mem_append_right _ (.head _))) 0 (v:=.string key) rfl
 have y1:=blk_cell (H1.holds _ (List.mem_append_right _ (.head _))) 1 (v:=.string mask) rfl
 have y2:=blk_cell (H1.holds _ (List.mem_append_right _ (.head _))) 2 (v:=.int .i64 prio) rfl
 have y3:=blk_cell (H1.holds _ (List.mem_append_right _ (.head _))) 3 (v:=.int .i64 v) rfl
 show Calls Tryz.prog 136 #[.pointer (some ⟨S,0,none⟩),.agg #[.string key,.string mask,.int .i64 prio,.int .i64 v]] w _
 clear H hl hf hs hnew hN
 go_enter Tryz.func136,Tryz.ntmps136
 go_upto_region 7 with (first
  | (go_at_call 134; ((with_reducible refine (zm _).mono ?_); rintro e w1 ⟨rfl,g1⟩; have H2:=H1.quiet g1; have z1:=wkeep g1 y1; clear H1 g1 y0 y1 y2 y3 zm hW0 hB3))
  | (go_at_call 139; ((with_reducible refine (ZT _ H2).mono ?_); rintro e w2 ⟨g,O,u,rfl,tk,H3⟩; have H3b:Own V w2 (blkT S #[.map gm,u,.int .i64 (items:Int),.int .i64 (last:Int)] 134 :: ordT u O :: gmT gm (entG O) :: (grpsT O ++ (g.things ++ (blkT B3 #[.string key,.string mask,.int .i64 prio,.int .i64 v] 193 :: R)))):=H3; have c3:=blk_cell H3b.head 3 (v:=.int .i64 (last:Int)) rfl; have f3:=blk_free H3b.head 3; have H4:=H3b.store 3 (.int .i64 ((last:Int) + 1)); have TK:=Lib.hid tk; obtain ⟨gb,hgb⟩ : ∃ gb,g.b = gb:=⟨_,rfl⟩; have HGB:=Lib.hid hgb; rw [hgb]; clear ZT H2 H3 H3b tk z1 hgb)))
 obtain ⟨W3,hW3⟩ : ∃ W3,w2.setCell ⟨S,3,none⟩ (.int .i64 ((last:Int) + 1)) = W3:=⟨_,rfl⟩
 rw [hW3] at H4
 try rw [hW3]
 have m3:blkT B3 #[.string key,.string mask,.int .i64 prio,.int .i64 v] 193 ∈ (blkT S (#[.map gm,u,.int .i64 (items:Int),.int .i64 (last:Int)].setIfInBounds 3 (.int .i64 ((last:Int) + 1))) 134 :: ordT u O :: gmT gm (entG O) :: (grpsT O ++ (g.things ++ (blkT B3 #[.string key,.string mask,.int .i64 prio,.int .i64 v] 193 :: R)))):=.tail _ (.tail _ (.tail _ (List.mem_append_right _ (List.mem_append_right _ (.head _)))))
 have d3:=fun q:After W3 => blk_cell (H4.quiet q.h).head 3 (v:=.int .i64 ((last:Int) + 1)) rfl
 have y0:=fun q:After W3 => blk_cell ((H4.quiet q.h).holds _ m3) 0 (v:=.string key) rfl
 have y1:=fun q:After W3 => blk_cell ((H4.quiet q.h).holds _ m3) 1 (v:=.string mask) rfl
 have y2:=fun q:After W3 => blk_cell ((H4.quiet q.h).holds _ m3) 2 (v:=.int .i64 prio) rfl
 have y3:=fun q:After W3 => blk_cell ((H4.quiet q.h).holds _ m3) 3 (v:=.int .i64 v) rfl
 clear hW3 c3 f3
 refine wp_region_after_tail 8 (by kernel_rfl) (by kernel_rfl) (Wider.refl _) ?_
 simp only [List.take_succ_cons,List.take_zero,List.drop_succ_cons,List.drop_zero]
 repeat (go_big_quiet_step (first | (go_at_call 143; exact quiet_after (zo _))))
 refine wpQuiet_nil ?_
 rintro _ ⟨y,rfl⟩
 have H5:Own V y.w ((⟨S,gm,u,O,items,last + 1⟩ : SetN).things ++ (g.things ++ (blkT B3 #[.string key,.string mask,.int .i64 prio,.int .i64 v] 193 :: R))):=H4.quiet y.h
 have H6:=Lib.hid (H5.perm (perm_mid _ _ _))
 have FC:=Lib.hid (TK.out.facts HL.out)
 have SM:=Lib.hid (take_small HL.out TK.out)
 clear d3 y0 y1 y2 y3 m3 H4 H5 zo
 have zp:=ugput_n H6.out FC.out.1 ⟨key,mask,prio,v⟩ (last + 1) (n:=(last:Int) + 1) rfl FC.out.2.1.symm HF.out.2.1.1 (by have:=SM.out.1; have:=HN.out; omega) HGB.out
 go_wp2_with (first
  | (go_at_call 145; ((with_reducible refine zp.mono ?_); rintro e w4 ⟨t,nw,rfl,pt,H7⟩; obtain rfl:nw = false:=(by { cases nw with | false => rfl | true => { obtain ⟨y,hy,sm⟩:=HF.out.2.2; exact absurd sm ((put_new HL.out TK.out pt).1 rfl y hy) } }); have PT:=Lib.hid pt; have H8:=H7.perm (perm_mid _ _ _); have H8c:=Lib.hid H8; clear H8; clear zp H6 H7 pt))
  | (go_at_call 141; ((with_reducible refine (uenter_n (PT.out.b.trans HGB.out) H8c.out FC.out.2.2.1 (by rw [PT.out.mask]; exact FC.out.2.2.2.2.2.1) (fun q hq => HL.out.few (by have:=HN.out; omega) q (FC.out.2.2.2.2.1 q hq)) (few_put PT.out (by have:=SM.out.1; have:=HN.out; omega)) (by have:=SM.out.2; have:=HN.out; omega) (by rw [PT.out.mask,FC.out.2.1]; exact HF.out.2.1.2) FC.out.2.2.2.2.2.2.2).mono ?_); rintro e w5 ⟨M,u2,A,B,rfl,eAB,hO,H9⟩; clear H8c)))
 go_ret
 refine ⟨⟨S,some M,u2,A ++ t :: B,items,last + 1⟩,rfl,rfl,((H9.perm List.perm_middle).drop),?_⟩
 exact put_good HL.out HF.out.1 HF.out.2.1 TK.out PT.out eAB hO
theorem tput_1 {V w:World} {R:List Thing} {s:SetN} {L:List ItN} {N:Nat} (H:Own V w (s.things ++ R)) (hl:SetL s L N) (hN:N < 99990) (x:ItN) (hf:FormN x) (hs:x.key.size < 1000000 ∧ x.mask.size < 1000000) :
 Calls Tryz.prog 136 #[ptrU s.A,aggI x] w fun e w' => ∃ t:SetN,t.A = s.A ∧ e = .returned (.int .i64 0) ∧ Own V w' (t.things ++ R) ∧ SetL t (butL L x ++ [x]) (N + 1):=by
 by_cases c:∃ y ∈ L,SameN y x
 · exact tput_old H hl hN x hf hs c
 · exact tput_new H hl hN x hf hs fun y hy h => c ⟨y,hy,h⟩
end Go.Proofs.YtbnpelciceblfaaGreat
