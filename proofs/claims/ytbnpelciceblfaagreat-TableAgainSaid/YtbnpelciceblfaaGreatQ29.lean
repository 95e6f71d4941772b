/- ZCodeJ ZCodeK -/
import Derived.Test.YtbnpelciceblfaaGreatQ28
namespace Go.Proofs.YtbnpelciceblfaaGreat
set_option linter.unusedVariables false
open Go.ChangeShapes Go.WideShapes Go.ChangeAt Go.RowKit Go.Joins
set_option maxHeartbeats 64000000
abbrev argT (e:EntM):Thing:=rowT 24 1 e.av e.x.args.length (u64s e.x.args)
abbrev rowE (v:Value) (n:Nat) (E:List EntM):Thing:=rowT 26 11 v n (cellsE E)
abbrev entsT (v:Value) (n:Nat) (E:List EntM):List Thing:=rowE v n E :: E.map argT
structure GoneM where
 e:EntM
 tag:Int
def cellsG (l:List GoneM):List Value:=l.flatMap fun g => (entC g.e.x g.e.av).toList ++ [.int .i64 g.tag]
abbrev gonesT (v:Value) (n:Nat) (G:List GoneM):List Thing:=rowT 59 12 v n (cellsG G) :: G.map fun g => argT g.e
abbrev zentM:EntM:=⟨zeroX,.slice none 0 0⟩
theorem cellsE_set:∀ (l:List EntM) (j:Nat) (e:EntM),j < l.length → (((((((((((cellsE l).set (j * 11) (.int .i64 e.x.tb)).set (j * 11 + 1) (.string e.x.key)).set (j * 11 + 2) (.string e.x.oth)).set (j * 11 + 3) (.int .i64 e.x.ln)).set (j * 11 + 4) (.int .i64 e.x.pr)).set (j * 11 + 5) (.int .i64 e.x.bk)).set (j * 11 + 6) (e.av)).set (j * 11 + 7) (.int .i64 e.x.idle)).set (j * 11 + 8) (.int .i64 e.x.hard)).set (j * 11 + 9) (.int .u64 e.x.ck)).set (j * 11 + 10) (.bool e.x.tl) = cellsE (l.set j e)
 | [],j,e,h => absurd h (Nat.not_lt_zero _)
 | y :: l,0,e,h => by rw [List.set_cons_zero,cellsE_cons,cellsE_cons]; rfl
 | y :: l,j + 1,e,h => by
   have:=cellsE_set l j e (by simpa using h)
   rw [cellsE_cons,List.set_cons_succ,cellsE_cons]
   have q0:(j + 1) * 11 = j * 11 + 1 + 1 + 1 + 1 + 1 + 1 + 1 + 1 + 1 + 1 + 1:=by omega
   have q1:(j + 1) * 11 + 1 = j * 11 + 1 + 1 + 1 + 1 + 1 + 1 + 1 + 1 + 1 + 1 + 1 + 1:=by omega
   have q2:(j + 1) * 11 + 2 = j * 11 + 2 + 1 + 1 + 1 + 1 + 1 + 1 + 1 + 1 + 1 + 1 + 1:=by omega
   have q3:(j + 1) * 11 + 3 = j * 11 + 3 + 1 + 1 + 1 + 1 + 1 + 1 + 1 + 1 + 1 + 1 + 1:=by omega
   have q4:(j + 1) * 11 + 4 = j * 11 + 4 + 1 + 1 + 1 + 1 + 1 + 1 + 1 + 1 + 1 + 1 + 1:=by omega
   have q5:(j + 1) * 11 + 5 = j * 11 + 5 + 1 + 1 + 1 + 1 + 1 + 1 + 1 + 1 + 1 + 1 + 1:=by omega
   have q6:(j + 1) * 11 + 6 = j * 11 + 6 + 1 + 1 + 1 + 1 + 1 + 1 + 1 + 1 + 1 + 1 + 1:=by omega
   have q7:(j + 1) * 11 + 7 = j * 11 + 7 + 1 + 1 + 1 + 1 + 1 + 1 + 1 + 1 + 1 + 1 + 1:=by omega
   have q8:(j + 1) * 11 + 8 = j * 11 + 8 + 1 + 1 + 1 + 1 + 1 + 1 + 1 + 1 + 1 + 1 + 1:=by omega
   have q9:(j + 1) * 11 + 9 = j * 11 + 9 + 1 + 1 + 1 + 1 + 1 + 1 + 1 + 1 + 1 + 1 + 1:=by omega
   have q10:(j + 1) * 11 + 10 = j * 11 + 10 + 1 + 1 + 1 + 1 + 1 + 1 + 1 + 1 + 1 + 1 + 1:=by omega
   rw [q10,q9,q8,q7,q6,q5,q4,q3,q2,q1,q0]
   show (((((((((((.int .i64 y.x.tb :: .string y.x.key :: .string y.x.oth :: .int .i64 y.x.ln :: .int .i64 y.x.pr :: .int .i64 y.x.bk :: y.av :: .int .i64 y.x.idle :: .int .i64 y.x.hard :: .int .u64 y.x.ck :: .bool y.x.tl :: cellsE l).set (j * 11 + 1 + 1 + 1 + 1 + 1 + 1 + 1 + 1 + 1 + 1 + 1) (.int .i64 e.x.tb)).set (j * 11 + 1 + 1 + 1 + 1 + 1 + 1 + 1 + 1 + 1 + 1 + 1 + 1) (.string e.x.key)).set (j * 11 + 2 + 1 + 1 + 1 + 1 + 1 + 1 + 1 + 1 + 1 + 1 + 1) (.string e.x.oth)).set (j * 11 + 3 + 1 + 1 + 1 + 1 + 1 + 1 + 1 + 1 + 1 + 1 + 1) (.int .i64 e.x.ln)).set (j * 11 + 4 + 1 + 1 + 1 + 1 + 1 + 1 + 1 + 1 + 1 + 1 + 1) (.int .i64 e.x.pr)).set (j * 11 + 5 + 1 + 1 + 1 + 1 + 1 + 1 + 1 + 1 + 1 + 1 + 1) (.int .i64 e.x.bk)).set (j * 11 + 6 + 1 + 1 + 1 + 1 + 1 + 1 + 1 + 1 + 1 + 1 + 1) (e.av)).set (j * 11 + 7 + 1 + 1 + 1 + 1 + 1 + 1 + 1 + 1 + 1 + 1 + 1) (.int .i64 e.x.idle)).set (j * 11 + 8 + 1 + 1 + 1 + 1 + 1 + 1 + 1 + 1 + 1 + 1 + 1) (.int .i64 e.x.hard)).set (j * 11 + 9 + 1 + 1 + 1 + 1 + 1 + 1 + 1 + 1 + 1 + 1 + 1) (.int .u64 e.x.ck)).set (j * 11 + 10 + 1 + 1 + 1 + 1 + 1 + 1 + 1 + 1 + 1 + 1 + 1) (.bool e.x.tl) = _
   simp only [List.set_cons_succ]
   rw [this]
   rfl
theorem cellsE_free (n:Nat):madeCells #[.int .i64 0,.string ⟨#[]⟩,.string ⟨#[]⟩,.int .i64 0,.int .i64 0,.int .i64 0,.slice none 0 0,.int .i64 0,.int .i64 0,.int .u64 0,.bool false] (n * 11) = (cellsE (List.replicate n zentM)).toArray:=by
 apply Array.ext_getElem?
 intro i
 have r:(cellsE (List.replicate n zentM)).toArray[i]? = (cellsE (List.replicate n zentM))[i]? :=by simp
 rw [r]; clear r
 have l:=cellsE_length (List.replicate n zentM)
 rw [List.length_replicate] at l
 by_cases c:i < n * 11
 · obtain ⟨p,r,rfl,hr⟩ : ∃ p r,i = p * 11 + r ∧ r < 11:=⟨i / 11,i % 11,by omega,by omega⟩
   have hp:p < n:=by omega
   rw [cellsE_at (List.replicate n zentM) p zentM (by rw [List.getElem?_replicate,if_pos hp]) r hr]
   have m:(p * 11 + r) % 11 = r:=by omega
   match r,hr with
   | 0,_ =>
     rw [Nat.add_zero] at c m ⊢
     simp [madeCells,c,m,zeroX]
   | 1,_ => simp [madeCells,c,m,zeroX]
   | 2,_ => simp [madeCells,c,m,zeroX]
   | 3,_ => simp [madeCells,c,m,zeroX]
   | 4,_ => simp [madeCells,c,m,zeroX]
   | 5,_ => simp [madeCells,c,m,zeroX]
   | 6,_ => simp [madeCells,c,m,zeroX]
   | 7,_ => simp [madeCells,c,m,zeroX]
   | 8,_ => simp [madeCells,c,m,zeroX]
   | 9,_ => simp [madeCells,c,m,zeroX]
   | 10,_ => simp [madeCells,c,m,zeroX]
 · rw [List.getElem?_eq_none (by omega)]
   simp [madeCells]; omega
theorem zinfoE:(Tryz.prog.info? 26).map (fun i => (i.zero,i.size,i.bytes)) = some (some (.agg #[.int .i64 0,.string ⟨#[]⟩,.string ⟨#[]⟩,.int .i64 0,.int .i64 0,.int .i64 0,.slice none 0 0,.int .i64 0,.int .i64 0,.int .u64 0,.bool false]),11,120):=by kernel_rfl
theorem zmakeE (n:Nat) (hn:n < 1000000) (w:World):(Instr.makeSlice 48 (.int .i64 (n:Int)) (.int .i64 (n:Int))).run Tryz.prog w = .ok (.slice (some ⟨w.heap.size,0,none⟩) n n) (w.alloc (.cells (cellsE (List.replicate n zentM)).toArray 26)):=by
 obtain ⟨i0,hi,hz0,hz1,hz2⟩:=info_parts zinfoE
 have h:=run_make (P:=Tryz.prog) (w:=w) 48 26 i0 _ Tryz.underlying48 hi hz0 .i64 .i64 (n:Int) (n:Int) (by omega) (by omega) (by rw [hz2]; omega) (by omega)
 rw [hz1,Int.toNat_natCast] at h
 have e:(Value.agg #[.int .i64 0,.string ⟨#[]⟩,.string ⟨#[]⟩,.int .i64 0,.int .i64 0,.int .i64 0,.slice none 0 0,.int .i64 0,.int .i64 0,.int .u64 0,.bool false]).cells = #[.int .i64 0,.string ⟨#[]⟩,.string ⟨#[]⟩,.int .i64 0,.int .i64 0,.int .i64 0,.slice none 0 0,.int .i64 0,.int .i64 0,.int .u64 0,.bool false]:=rfl
 rw [e,cellsE_free] at h
 exact h
theorem store11E {V w:World} {R:List Thing} {I j:Nat} {l:List EntM} (H:Own V w (blkT I (cellsE l).toArray 26 :: R)) (hj:j < l.length) (e:EntM) :
 Own V ((((((((((((w).setCell ⟨I,j * 11,none⟩ (.int .i64 e.x.tb)).setCell ⟨I,j * 11 + 1,none⟩ (.string e.x.key)).setCell ⟨I,j * 11 + 2,none⟩ (.string e.x.oth)).setCell ⟨I,j * 11 + 3,none⟩ (.int .i64 e.x.ln)).setCell ⟨I,j * 11 + 4,none⟩ (.int .i64 e.x.pr)).setCell ⟨I,j * 11 + 5,none⟩ (.int .i64 e.x.bk)).setCell ⟨I,j * 11 + 6,none⟩ (e.av)).setCell ⟨I,j * 11 + 7,none⟩ (.int .i64 e.x.idle)).setCell ⟨I,j * 11 + 8,none⟩ (.int .i64 e.x.hard)).setCell ⟨I,j * 11 + 9,none⟩ (.int .u64 e.x.ck)).setCell ⟨I,j * 11 + 10,none⟩ (.bool e.x.tl)) (blkT I (cellsE (l.set j e)).toArray 26 :: R):=by
 have h:=(((((((((((H).store (j * 11) (.int .i64 e.x.tb)).store (j * 11 + 1) (.string e.x.key)).store (j * 11 + 2) (.string e.x.oth)).store (j * 11 + 3) (.int .i64 e.x.ln)).store (j * 11 + 4) (.int .i64 e.x.pr)).store (j * 11 + 5) (.int .i64 e.x.bk)).store (j * 11 + 6) (e.av)).store (j * 11 + 7) (.int .i64 e.x.idle)).store (j * 11 + 8) (.int .i64 e.x.hard)).store (j * 11 + 9) (.int .u64 e.x.ck)).store (j * 11 + 10) (.bool e.x.tl)
 simp only [List.setIfInBounds_toArray] at h
 rw [cellsE_set l j e hj] at h
 exact h
def GotE (E:List HeldP) (n j:Nat) (l:List EntM):Prop:=l.length = n ∧ ∀ i,i < j → ∃ e h,l[i]? = some e ∧ E[i]? = some h ∧ e.x = h.x
theorem gotE_next {E:List HeldP} {n j:Nat} {l:List EntM} (h:GotE E n j l) (hj:j < n) {y:HeldP} (hy:E[j]? = some y) (av:Value):GotE E n (j + 1) (l.set j ⟨y.x,av⟩):=by
 refine ⟨by rw [List.length_set]; exact h.1,fun i hi => ?_⟩
 by_cases c:i = j
 · subst c
   exact ⟨⟨y.x,av⟩,y,by rw [List.getElem?_set_self (by rw [h.1]; exact hj)],hy,rfl⟩
 · obtain ⟨e,p,a,b,q⟩:=h.2 i (by omega)
   exact ⟨e,p,by rw [List.getElem?_set_ne (by omega)]; exact a,b,q⟩
theorem gotE_all {E:List HeldP} {n:Nat} {l:List EntM} (h:GotE E n n l) (hn:E.length = n):l.map (·.x) = E.map (·.x):=by
 apply List.ext_getElem?
 intro i
 rw [List.getElem?_map,List.getElem?_map]
 by_cases c:i < n
 · obtain ⟨e,p,a,b,q⟩:=h.2 i c
   rw [a,b]; exact congrArg some q
 · rw [List.getElem?_eq_none (by rw [h.1]; omega),List.getElem?_eq_none (by omega)]; rfl
theorem take_set_map {l:List EntM} {j:Nat} (hj:j < l.length) (e:EntM):((l.set j e).take (j + 1)).map argT = (l.take j).map argT ++ [argT e]:=by
 have a:(l.set j e)[j]? = some e:=by rw [List.getElem?_set_self hj]
 obtain ⟨b,c⟩:=List.getElem?_eq_some_iff.1 a
 rw [List.take_succ_eq_append_getElem b,c,List.map_append,List.take_set_of_le (Nat.le_refl _)]
 rfl
set_option maxRecDepth 20000 in
theorem zents_a {V w:World} {R Xs:List Thing} {S:Nat} {d:StoD} {s:StM} (H:Own V w (d.things S ++ (Xs ++ R))) (f:StF d Xs s) {n:Nat} (hn:d.E.length = n) :
 Calls Tryz.prog 18 #[pS S] w fun e w' => ∃ B c El,e = .returned (.slice B n c) ∧ El.map (·.x) = d.E.map (·.x) ∧ Own V w' (entsT (.slice B n c) n El ++ (d.things S ++ (Xs ++ R))):=by
 have hX:∀ t ∈ Xs,t ∈ d.things S ++ (Xs ++ R):=fun t ht => List.mem_append_right _ (List.mem_append_left _ ht)
 have slc:=f.sliced H hX
 have hlen:=f.len
 obtain ⟨A1,cp,ehv,hs⟩:=sto_row H slc
 rw [hn] at ehv hlen
 have c7:=blk_cell H.head 7 (v:=d.hv) rfl
 rw [ehv] at c7
 have hmk:=zmakeE n (by omega) w
 have H0:=H.blk (cellsE (List.replicate n zentM)).toArray 26
 have hs0:=hs.on ((Wider.refl w).alloc (.cells (cellsE (List.replicate n zentM)).toArray 26))
 have c70:=wkeep ((Wider.refl w).alloc (.cells (cellsE (List.replicate n zentM)).toArray 26)) c7
 obtain ⟨I,hI⟩ : ∃ I,w.heap.size = I:=⟨_,rfl⟩
 obtain ⟨W0,hW0⟩ : ∃ W1,w.alloc (.cells (cellsE (List.replicate n zentM)).toArray 26) = W1:=⟨_,rfl⟩
 rw [hI,hW0] at hmk H0
 rw [hW0] at hs0 c70
 have HF:=Lib.hid (And.intro f (And.intro slc (And.intro hn ehv)))
 have HH0:=Lib.hid H0
 clear H f hX slc hs hn ehv hI hW0 H0 hs0
 refine by_post fun Q hQ => ?_
 have HQ:=Lib.hid hQ
 clear hQ
 show Calls Tryz.prog 18 #[.pointer (some ⟨S,0,none⟩)] w Q
 go_enter Tryz.func18,Tryz.ntmps18
 go_wp2
 clear hmk c7 c70
 go_loopw [19] (fun b wr => ∃ (j:Nat) (l:List EntM),j ≤ n ∧ b = .int .i64 (j:Int) ∧ Hid (GotE d.E n j l) ∧ Own V wr (blkT I (cellsE l).toArray 26 :: ((l.take j).map argT ++ (d.things S ++ (Xs ++ R))))) (fun b _ => n - (intOf b).toNat)
 case atStart => exact ⟨0,List.replicate n zentM,Nat.zero_le _,rfl,Lib.hid ⟨by simp,fun i h => absurd h (Nat.not_lt_zero i)⟩,by simpa using HH0.out⟩
 case round =>
  obtain ⟨j,l,hj0,rfl,HJ,H⟩:=hrel
  have j0:(0:Int) ≤ (j:Int):=by omega
  by_cases dd:j < n
  · have j1:(j:Int) < (n:Int):=by omega
    obtain ⟨h,hi⟩ : ∃ h,d.E[j]? = some h:=⟨d.E[j]'(by rw [HF.out.2.2.1]; exact dd),List.getElem?_eq_getElem _⟩
    have Hd:Own V wr (d.things S ++ (Xs ++ R)):=own_rest H.drop
    obtain ⟨A2,cp2,ehv2,hs⟩:=sto_row Hd HF.out.2.1
    have eA:A1 = A2:=by
     have:=HF.out.2.2.2.symm.trans ehv2
     injection this
    subst eA
    obtain ⟨B0,eB,Ay,na,cy,eav,x0,x1,x2,x3,x4,x5,x6,x7,x8,x9,x10,x11,x12,x13⟩:=hs j h hi
    subst eB
    obtain ⟨s1,s2,s3⟩:=held_small HF.out.1 (List.mem_of_getElem? hi)
    have hXm:∀ t ∈ Xs,t ∈ blkT I (cellsE l).toArray 26 :: ((l.take j).map argT ++ (d.things S ++ (Xs ++ R))):=fun t ht => .tail _ (List.mem_append_right _ (List.mem_append_right _ (List.mem_append_left _ ht)))
    have ar:=held_args H hXm HF.out.1 (List.mem_of_getElem? hi)
    rw [eav] at ar
    have hna:h.x.args.length = na:=by
     obtain ⟨_,_,_,e,l,_⟩:=ar
     injection e with e1 e2 e3
     rw [l,e2]
    have zo:=fun (W:World) (g:Wider wr W) => zown_c (H.quiet g) h.x (ar.on g) (by omega) (by omega) (by omega)
    obtain ⟨y,hy⟩ : ∃ y,l[j]? = some y:=⟨l[j]'(by rw [HJ.out.1]; exact dd),List.getElem?_eq_getElem _⟩
    have HY:=Lib.hid (cellsE_at l j y hy)
    have HI:=Lib.hid (And.intro hi (And.intro hna ehv2))
    have HJ2:=Lib.hid HJ.out.1
    have zo:=zo _ ((Wider.refl wr).alloc (.cells #[.int .i64 h.x.tb,.string h.x.key,.string h.x.oth,.int .i64 h.x.ln,.int .i64 h.x.pr,.int .i64 h.x.bk,.slice Ay na cy,.int .i64 h.x.idle,.int .i64 h.x.hard,.int .u64 h.x.ck,.bool h.x.tl,.int .i64 (h.pl:Int),.int .i64 h.put,.int .i64 h.used] 77))
    clear Hd hs eav hi hna ar s1 s2 s3 hXm hy ehv2 H
    obtain ⟨⟨tb,key,oth,ln,pr,bk,args,idle,hard,ck,tl⟩,av,pl0,put,used⟩:=h
    obtain ⟨pl,hpl⟩ : ∃ pl:Int,(pl0:Int) = pl:=⟨_,rfl⟩
    simp only [hpl] at x0 x1 x2 x3 x4 x5 x6 x7 x8 x9 x10 x11 x12 x13
    have zo:Calls Tryz.prog 34 #[.agg #[.int .i64 tb,.string key,.string oth,.int .i64 ln,.int .i64 pr,.int .i64 bk,.slice Ay na cy,.int .i64 idle,.int .i64 hard,.int .u64 ck,.bool tl]] (wr.alloc (.cells #[.int .i64 tb,.string key,.string oth,.int .i64 ln,.int .i64 pr,.int .i64 bk,.slice Ay na cy,.int .i64 idle,.int .i64 hard,.int .u64 ck,.bool tl,.int .i64 pl,.int .i64 put,.int .i64 used] 77)) fun e w' => ∃ B c',e = .returned (.agg #[.int .i64 tb,.string key,.string oth,.int .i64 ln,.int .i64 pr,.int .i64 bk,.slice B na c',.int .i64 idle,.int .i64 hard,.int .u64 ck,.bool tl]) ∧ args.length = na ∧ Own V w' (argA ⟨tb,key,oth,ln,pr,bk,args,idle,hard,ck,tl⟩ (.slice B na c') :: blkT I (cellsE l).toArray 26 :: ((l.take j).map argT ++ (d.things S ++ (Xs ++ R)))):=by
     rw [← hpl]; exact zo
    clear hpl
    go_wp2_with (first
     | (go_at_call 34; ((with_reducible refine zo.mono ?_); rintro e w2 ⟨BI,cI,rfl,_,H3⟩; have H4:=H3.swap; have e0:=blk_cell H4.head (j * 11) (by rw [List.getElem?_toArray]; exact HY.out 0 (by decide)); have f0:=blk_free H4.head (j * 11); have e1:=blk_cell H4.head (j * 11 + 1) (by rw [List.getElem?_toArray]; exact HY.out 1 (by decide)); have f1:=blk_free H4.head (j * 11 + 1); have e2:=blk_cell H4.head (j * 11 + 2) (by rw [List.getElem?_toArray]; exact HY.out 2 (by decide)); have f2:=blk_free H4.head (j * 11 + 2); have e3:=blk_cell H4.head (j * 11 + 3) (by rw [List.getElem?_toArray]; exact HY.out 3 (by decide)); have f3:=blk_free H4.head (j * 11 + 3); have e4:=blk_cell H4.head (j * 11 + 4) (by rw [List.getElem?_toArray]; exact HY.out 4 (by decide)); have f4:=blk_free H4.head (j * 11 + 4); have e5:=blk_cell H4.head (j * 11 + 5) (by rw [List.getElem?_toArray]; exact HY.out 5 (by decide)); have f5:=blk_free H4.head (j * 11 + 5); have e6:=blk_cell H4.head (j * 11 + 6) (by rw [List.getElem?_toArray]; exact HY.out 6 (by decide)); have f6:=blk_free H4.head (j * 11 + 6); have e7:=blk_cell H4.head (j * 11 + 7) (by rw [List.getElem?_toArray]; exact HY.out 7 (by decide)); have f7:=blk_free H4.head (j * 11 + 7); have e8:=blk_cell H4.head (j * 11 + 8) (by rw [List.getElem?_toArray]; exact HY.out 8 (by decide)); have f8:=blk_free H4.head (j * 11 + 8); have e9:=blk_cell H4.head (j * 11 + 9) (by rw [List.getElem?_toArray]; exact HY.out 9 (by decide)); have f9:=blk_free H4.head (j * 11 + 9); have e10:=blk_cell H4.head (j * 11 + 10) (by rw [List.getElem?_toArray]; exact HY.out 10 (by decide)); have f10:=blk_free H4.head (j * 11 + 10); clear zo H3)))
    go_roundw
    case rel =>
     refine ⟨j + 1,l.set j ⟨⟨tb,key,oth,ln,pr,bk,args,idle,hard,ck,tl⟩,.slice BI na cI⟩,by omega,by go_num,Lib.hid (gotE_next HJ.out dd HI.out.1 _),?_⟩
     have H5:=store11E H4 (by rw [HJ.out.1]; exact dd) ⟨⟨tb,key,oth,ln,pr,bk,args,idle,hard,ck,tl⟩,.slice BI na cI⟩
     rw [take_set_map (by rw [HJ.out.1]; exact dd)]
     refine H5.perm (List.Perm.cons _ ?_)
     rw [List.append_assoc]
     exact List.perm_middle.symm
    case measure => simp [intOf]; omega
  · obtain rfl:j = n:=by omega
    have j1:¬ (j:Int) < (j:Int):=by omega
    have HH:=Lib.hid H
    clear H
    go_wp2
    refine HQ.out _ _ ⟨_,_,l,rfl,gotE_all HJ.out HF.out.2.2.1,?_⟩
    have H:=HH.out
    rw [List.take_of_length_le (by rw [HJ.out.1]; exact Nat.le_refl _)] at H
    exact H.rowShut (Nat.le_refl _) (by unfold maxLen; omega) (by rw [cellsE_length,HJ.out.1]) (List.take_of_length_le (by rw [cellsE_length,HJ.out.1]; exact Nat.le_refl _))
theorem zinfoG:(Tryz.prog.info? 59).map (fun i => (i.zero,i.size,i.bytes)) = some (some (.agg #[.int .i64 0,.string ⟨#[]⟩,.string ⟨#[]⟩,.int .i64 0,.int .i64 0,.int .i64 0,.slice none 0 0,.int .i64 0,.int .i64 0,.int .u64 0,.bool false,.int .i64 0]),12,128):=by kernel_rfl
theorem newG_one (tb:Int) (key oth:ByteArray) (ln pr bk:Int) (BI:Option Addr) (na cI:Nat) (idle hard ck:Int) (tl:Bool) (tag:Int):∀ u ∈ ([.int .i64 tb,.string key,.string oth,.int .i64 ln,.int .i64 pr,.int .i64 bk,.slice BI na cI,.int .i64 idle,.int .i64 hard,.int .u64 ck,.bool tl,.int .i64 tag] : List Value),u.oneCell' = true:=by
 intro u hu
 simp only [List.mem_cons,List.not_mem_nil,or_false] at hu
 rcases hu with rfl | rfl | rfl | rfl | rfl | rfl | rfl | rfl | rfl | rfl | rfl | rfl <;> rfl
theorem gone_lies (w:World) (C:Array Value):(∀ a:Addr,some (⟨w.heap.size,0,none⟩ : Addr) = some a → ∀ j u,C.toList[j]? = some u → (w.alloc (.cells C 59)).cell? (a.add j) = some u):=fun a e j u hu => by
 cases e
 rw [Addr.add_lit,Nat.zero_add,World.cell?_alloc_new]
 simpa using hu
theorem cellsG_snoc (G:List GoneM) (g:GoneM):cellsG (G ++ [g]) = cellsG G ++ ((entC g.e.x g.e.av).toList ++ [.int .i64 g.tag]):=by unfold cellsG; rw [List.flatMap_append]; simp
theorem StF.time {d:StoD} {Xs:List Thing} {s:StM} (f:StF d Xs s) {h:HeldP} (hh:h ∈ d.E):TimeH h:=by
 have m:HeldP.m h ∈ s.L:=by rw [f.hL]; exact List.mem_map.2 ⟨h,hh,rfl⟩
 have a:=f.good.l.put _ m
 have b:=f.good.l.found _ m
 have c:=f.good.l.hard _ m
 have e:=f.good.l.idle _ m
 exact ⟨a.1,a.2,b.1,b.2,c.1,c.2,e.1,e.2⟩
theorem drop_next {E:List HeldP} {k:Nat} (h:k < E.length):∃ y,E[k]? = some y ∧ E.drop k = y :: E.drop (k + 1):=⟨E[k],List.getElem?_eq_getElem h,by rw [List.getElem_cons_drop]⟩
theorem out_next {t:Int} {E:List HeldP} {k:Nat} {y:HeldP} (h:E[k]? = some y):(tagT t y.m = 0 → outT t ((E.take (k + 1)).map HeldP.m) = outT t ((E.take k).map HeldP.m) ∧ restT t ((E.take (k + 1)).map HeldP.m) = restT t ((E.take k).map HeldP.m) ++ [y.m]) ∧
 (tagT t y.m ≠ 0 → outT t ((E.take (k + 1)).map HeldP.m) = outT t ((E.take k).map HeldP.m) ++ [(y.x,tagT t y.m)] ∧ restT t ((E.take (k + 1)).map HeldP.m) = restT t ((E.take k).map HeldP.m)):=by
 obtain ⟨hk,rfl⟩:=List.getElem?_eq_some_iff.1 h
 rw [List.take_succ_eq_append_getElem hk,List.map_append,out_append,rest_append]
 refine ⟨fun q => ?_,fun q => ?_⟩
 · have a:outT t ([E[k]].map HeldP.m) = []:=by unfold outT; simp [q]
   have b:restT t ([E[k]].map HeldP.m) = [E[k].m]:=by unfold restT; simp [q]
   rw [a,b,List.append_nil]; exact ⟨rfl,rfl⟩
 · have a:outT t ([E[k]].map HeldP.m) = [(E[k].x,tagT t E[k].m)]:=by unfold outT; simp [q]; rfl
   have b:restT t ([E[k]].map HeldP.m) = []:=by unfold restT; simp [q]
   rw [a,b,List.append_nil]; exact ⟨rfl,rfl⟩
def lenAt (w:World) (S:Nat):Nat:=match w.cell? ⟨S,7,none⟩ with | some (.slice _ n _) => n | _ => 0
structure ExpA (d:StoD) (Xs:List Thing) (s:StM) (t:Int) (k:Nat) (A:List HeldP) (G:List GoneM) (hv:Value) (Es:List Thing):Prop where
 f:StF ({ d with hv:=hv,E:=A ++ d.E.drop k,Es:=Es } : StoD) Xs { s with L:=(A ++ d.E.drop k).map HeldP.m }
 rest:A.map HeldP.m = restT t ((d.E.take k).map HeldP.m)
 out:(G.map fun g => (g.e.x,g.tag)) = outT t ((d.E.take k).map HeldP.m)
theorem own_mid5 {V w:World} {a b:Thing} {X T Z:List Thing} (H:Own V w (a :: b :: (X ++ (T ++ Z)))):Own V w (T ++ (a :: b :: (X ++ Z))) :=
 H.perm ((((perm_mid X T Z).cons b).cons a).trans (perm_mid [a,b] T (X ++ Z)))
theorem own_back5 {V w:World} {a b:Thing} {X T Z:List Thing} (H:Own V w (T ++ (a :: b :: (X ++ Z)))):Own V w (a :: (X ++ [b]) ++ (T ++ Z)):=by
 have p1:(T ++ (a :: b :: (X ++ Z))).Perm (a :: b :: (X ++ (T ++ Z))):=((((perm_mid X T Z).cons b).cons a).trans (perm_mid [a,b] T (X ++ Z))).symm
 refine (H.perm p1).perm (List.Perm.cons _ ?_)
 show (b :: (X ++ (T ++ Z))).Perm ((X ++ [b]) ++ (T ++ Z))
 rw [List.append_assoc]
 exact (List.perm_middle (l₁:=X)).symm
theorem expA_keep {d:StoD} {Xs:List Thing} {s:StM} {t:Int} {k:Nat} {A:List HeldP} {G:List GoneM} {hv:Value} {Es:List Thing} (h:ExpA d Xs s t k A G hv Es) {y:HeldP} (hy:d.E[k]? = some y) (ed:d.E.drop k = y :: d.E.drop (k + 1)) (ht:tagT t y.m = 0):ExpA d Xs s t (k + 1) (A ++ [y]) G hv Es:=by
 have e:(A ++ [y]) ++ d.E.drop (k + 1) = A ++ d.E.drop k:=by rw [ed,List.append_assoc]; rfl
 obtain ⟨o,r⟩:=(out_next hy).1 ht
 refine ⟨?_,?_,?_⟩
 · rw [e]; exact h.f
 · rw [r,List.map_append,h.rest]; rfl
 · rw [o]; exact h.out
set_option maxRecDepth 20000 in
theorem zexpire_a {V w:World} {R Xs:List Thing} {S:Nat} {d:StoD} {s:StM} (H:Own V w (d.things S ++ (Xs ++ R))) (f:StF d Xs s) (hN:s.n < 99990) (now:Int) :
 Calls Tryz.prog 17 #[pS S,.int .i64 now] w fun e w' => ∃ B n c G A hv Es,e = .returned (.slice B n c) ∧ G.length = n ∧ (G.map fun g => (g.e.x,g.tag)) = outT (clampT now) (d.E.map HeldP.m) ∧ A.map HeldP.m = restT (clampT now) (d.E.map HeldP.m) ∧ StF ({ d with hv:=hv,E:=A,Es:=Es } : StoD) Xs { s with L:=A.map HeldP.m } ∧ Own V w' (gonesT (.slice B n c) n G ++ (({ d with hv:=hv,E:=A,Es:=Es } : StoD).things S ++ (Xs ++ R))):=by
 obtain ⟨tt,htt⟩ : ∃ tt,clampT now = tt:=⟨_,rfl⟩
 have zt:=ztick_c now
 have ht:=clampT_le now
 rw [htt] at zt ht
 have hlen:=f.len
 have HT:=Lib.hid (And.intro htt ht)
 obtain ⟨i0,hi,hz0,hz1,hz2⟩:=info_parts zinfoG
 have H0:Own V w (gonesT (.slice none 0 0) 0 [] ++ (d.things S ++ (Xs ++ R))):=H.row (Wider.refl _) (World.ownsRow_nil _ _ 59 12)
 have e0:ExpA d Xs s tt 0 [] [] d.hv d.Es:=⟨by
  have q:({ s with L:=([] ++ d.E.drop 0).map HeldP.m } : StM) = s:=by
   show ({ s with L:=d.E.map HeldP.m } : StM) = s
   rw [← f.hL]
  rw [q]; exact f,rfl,rfl⟩
 obtain ⟨nE,hnE⟩ : ∃ n,d.E.length = n:=⟨_,rfl⟩
 have HX:=Lib.hid (And.intro hnE (And.intro hN hlen))
 have HE0:=Lib.hid e0
 clear H f hN htt hlen hnE e0
 rw [HT.out.1]
 refine by_post fun Q hQ => ?_
 have HQ:=Lib.hid hQ
 clear hQ ht
 show Calls Tryz.prog 17 #[.pointer (some ⟨S,0,none⟩),.int .i64 now] w Q
 go_enter Tryz.func17,Tryz.ntmps17
 go_wp2_with (first
  | (go_at_call 33; ((with_reducible refine (zt _).mono ?_); rintro e w1 ⟨rfl,g⟩; replace H0:=H0.quiet g; clear zt g)))
 go_loopw [5,6] (fun a b wr => ∃ (k nA:Nat) (A:List HeldP) (G:List GoneM) (hv:Value) (Es:List Thing) (v:Value),k ≤ nE ∧ a = v ∧ b = .int .i64 (nA:Int) ∧ Hid (A.length = nA) ∧ Hid (ExpA d Xs s tt k A G hv Es) ∧ Own V wr (gonesT v G.length G ++ ((({ d with hv:=hv,E:=A ++ d.E.drop k,Es:=Es } : StoD)).things S ++ (Xs ++ R)))) (fun a b wr => lenAt wr S - (intOf b).toNat)
 case atStart => exact ⟨0,0,[],[],d.hv,d.Es,_,Nat.zero_le _,rfl,rfl,Lib.hid rfl,HE0,H0⟩
 case round =>
  clear H0
  obtain ⟨k,nA,A,G,hv,Es,v,hk,rfl,rfl,HNA,HE,H⟩:=hrel
  have hnA:=HNA.out
  have Hd:Own V wr ((({ d with hv:=hv,E:=A ++ d.E.drop k,Es:=Es } : StoD)).things S ++ (Xs ++ R)):=own_rest H
  have fj:=HE.out.f
  have slc:=fj.sliced Hd (fun t ht => List.mem_append_right _ (List.mem_append_left _ ht))
  obtain ⟨A1,cp,ehv,hs⟩:=sto_row Hd slc
  have ehv:hv = .slice A1 (A ++ d.E.drop k).length cp:=ehv
  have hs:HeldsAt wr A1 (A ++ d.E.drop k):=hs
  have c7:=blk_cell Hd.head 7 (v:=hv) rfl
  rw [ehv,List.length_append,hnA] at c7
  have hdl:(d.E.drop k).length = nE - k:=by rw [List.length_drop,HX.out.1]
  rw [hdl] at c7
  have a0:(0:Int) ≤ (nA:Int):=by omega
  have hnA256:nA + (nE - k) ≤ 256:=by
   have:=fj.len
   have e:(A ++ d.E.drop k).length = nA + (nE - k):=by rw [List.length_append,hnA,hdl]
   have q:(A ++ d.E.drop k).length ≤ 256:=this
   omega
  have HA256:=Lib.hid hnA256
  have hme:lenAt wr S = nA + (nE - k):=by unfold lenAt; rw [c7]
  by_cases dd:k < nE
  · obtain ⟨y,hy,edrop⟩:=drop_next (E:=d.E) (k:=k) (by rw [HX.out.1]; exact dd)
    have hat:(A ++ d.E.drop k)[nA]? = some y:=by rw [edrop,← hnA,List.getElem?_append_right (Nat.le_refl _),Nat.sub_self]; rfl
    obtain ⟨m,hm⟩ : ∃ m,nA + (nE - k) = m:=⟨_,rfl⟩
    rw [hm] at c7 hme
    have a1:(nA:Int) < (m:Int):=by omega
    have hym:y ∈ A ++ d.E.drop k:=List.mem_of_getElem? hat
    obtain ⟨B0,rfl,Ay,na,cy,eav,x0,x1,x2,x3,x4,x5,x6,x7,x8,x9,x10,x11,x12,x13⟩:=hs nA y hat
    have ze:=zexpired_c y (fj.time hym) Ay na cy HT.out.2 (r:=tagT tt y.m) rfl
    obtain ⟨s1,s2,s3⟩:=held_small fj hym
    have hX:∀ t ∈ Xs,t ∈ gonesT u5 G.length G ++ ((({ d with hv:=hv,E:=A ++ d.E.drop k,Es:=Es } : StoD)).things S ++ (Xs ++ R)):=fun t ht => List.mem_append_right _ (List.mem_append_right _ (List.mem_append_left _ ht))
    have ar:=held_args H hX fj hym
    rw [eav] at ar
    have hna:y.x.args.length = na:=by
     obtain ⟨_,_,_,e,l,_⟩:=ar
     injection e with e1 e2 e3
     rw [l,e2]
    have zo:=fun (W:World) (g:Wider wr W) => zown_c (H.quiet g) y.x (ar.on g) (by omega) (by omega) (by omega)
    obtain ⟨tag,htag⟩ : ∃ tag,tagT tt y.m = tag:=⟨_,rfl⟩
    rw [htag] at ze
    have HY:=Lib.hid (And.intro hy (And.intro edrop (And.intro htag (And.intro hna (And.intro hm ehv)))))
    have HH:=Lib.hid H
    have aw:IntKind.i64.wrap ((nA:Int) + 1) = (nA:Int) + 1:=by simp [IntKind.wrap,IntKind.bits,IntKind.signed]; omega
    by_cases ct:tag = 0
    · subst ct
      clear Hd fj slc hs ehv hy edrop hat hym s1 s2 s3 hX ar hna zo htag H hnA hnA256 hdl eav hm
      obtain ⟨⟨tb,key,oth,ln,pr,bk,args,idle,hard,ck,tl⟩,av,pl0,put,used⟩:=y
      obtain ⟨pl,hpl⟩ : ∃ pl:Int,(pl0:Int) = pl:=⟨_,rfl⟩
      simp only [hpl] at x0 x1 x2 x3 x4 x5 x6 x7 x8 x9 x10 x11 x12 x13
      have ze:∀ w,Calls Tryz.prog 43 #[.agg #[.int .i64 tb,.string key,.string oth,.int .i64 ln,.int .i64 pr,.int .i64 bk,.slice Ay na cy,.int .i64 idle,.int .i64 hard,.int .u64 ck,.bool tl,.int .i64 pl,.int .i64 put,.int .i64 used],.int .i64 tt] w fun e w' => e = .returned (.int .i64 0) ∧ Wider w w':=by rw [← hpl]; exact ze
      clear hpl
      go_wp2_with (first
       | (go_at_call 43; ((with_reducible refine (ze _).mono ?_); rintro e w2 ⟨rfl,g⟩; clear ze)))
      go_roundw
      case rel =>
       refine ⟨k + 1,nA + 1,A ++ [_],G,hv,Es,u5,by omega,rfl,by go_num,Lib.hid (by rw [List.length_append,HNA.out]; rfl),Lib.hid (expA_keep HE.out HY.out.1 HY.out.2.1 HY.out.2.2.1),?_⟩
       have q:=HH.out.quiet g
       rw [HY.out.2.1] at q
       rw [List.append_assoc]
       exact q
      case measure =>
       have c7b:=wkeep g c7
       have hme2:lenAt w2 S = m:=by unfold lenAt; rw [c7b]
       simp [intOf,hme,hme2]; omega
    · have ct2:(tag == 0) = false:=by rw [beq_eq_false_iff_ne]; exact ct
      have hfy:FitX d.t.kind d.ws y.x:=fj.engf.fit (HeldP.kp y) (List.mem_map.2 ⟨y,hym,rfl⟩)
      have eE:A ++ d.E.drop k = A ++ y :: d.E.drop (k + 1):=by rw [edrop]
      have hmm:∃ m ∈ (A ++ d.E.drop k).map HeldP.kp,OneK m.1 y.x:=⟨HeldP.kp y,List.mem_map.2 ⟨y,hym,rfl⟩,rfl,rfl,rfl,rfl⟩
      have hbut:=butM_cut fj eE
      have zr:=fun {R2:List Thing} (W:World) (HW:Own V W ((({ d with hv:=hv,E:=A ++ d.E.drop k,Es:=Es } : StoD)).things S ++ R2)) => zremove_c HW slc (by have:=fj.len; omega) fj.eng HX.out.2.1 fj.engf eE hfy hmm hnA
      rw [hbut] at zr
      obtain ⟨nG,hnG⟩ : ∃ n,G.length = n:=⟨_,rfl⟩
      have HNG:=Lib.hid hnG
      have h256:=HX.out.2.2
      have S1:Hid (nG + 1 ≤ maxLen):=Lib.hid (by
       have e:G.length = (outT tt ((d.E.take k).map HeldP.m)).length:=by rw [← HE.out.out,List.length_map]
       have q:(outT tt ((d.E.take k).map HeldP.m)).length ≤ (d.E.take k).length:=by unfold outT; rw [List.length_map]; exact Nat.le_trans (List.length_filter_le _ _) (by rw [List.length_map]; exact Nat.le_refl _)
       rw [List.length_take] at q
       unfold maxLen; omega)
      have S2:Hid ((nG + 1) * 128 ≤ 140737488355328):=Lib.hid (by
       have e:G.length = (outT tt ((d.E.take k).map HeldP.m)).length:=by rw [← HE.out.out,List.length_map]
       have q:(outT tt ((d.E.take k).map HeldP.m)).length ≤ (d.E.take k).length:=by unfold outT; rw [List.length_map]; exact Nat.le_trans (List.length_filter_le _ _) (by rw [List.length_map]; exact Nat.le_refl _)
       rw [List.length_take] at q
       omega)
      have heldC:=fun (W:World) (g:Wider wr W) => (hs.on g) nA y hat
      rw [hnG] at zo
      have ZO:=Lib.hid zo
      have HELD:=Lib.hid heldC
      have hme0:=Lib.hid hme
      clear Hd fj slc hs ehv hy edrop hat hym s1 s2 s3 hX ar hna zo htag H hnA hnA256 hdl hm hfy hmm hbut eE hnG heldC hme
      obtain ⟨⟨tb,key,oth,ln,pr,bk,args,idle,hard,ck,tl⟩,av,pl0,put,used⟩:=y
      obtain ⟨pl,hpl⟩ : ∃ pl:Int,(pl0:Int) = pl:=⟨_,rfl⟩
      simp only [hpl] at x0 x1 x2 x3 x4 x5 x6 x7 x8 x9 x10 x11 x12 x13
      have ze:∀ w,Calls Tryz.prog 43 #[.agg #[.int .i64 tb,.string key,.string oth,.int .i64 ln,.int .i64 pr,.int .i64 bk,.slice Ay na cy,.int .i64 idle,.int .i64 hard,.int .u64 ck,.bool tl,.int .i64 pl,.int .i64 put,.int .i64 used],.int .i64 tt] w fun e w' => e = .returned (.int .i64 tag) ∧ Wider w w':=by rw [← hpl]; exact ze
      clear hpl
      have ZO2:Hid (∀ W,Wider wr W → Calls Tryz.prog 34 #[.agg #[.int .i64 tb,.string key,.string oth,.int .i64 ln,.int .i64 pr,.int .i64 bk,.slice Ay na cy,.int .i64 idle,.int .i64 hard,.int .u64 ck,.bool tl]] W fun e w' => ∃ B c',e = .returned (.agg #[.int .i64 tb,.string key,.string oth,.int .i64 ln,.int .i64 pr,.int .i64 bk,.slice B na c',.int .i64 idle,.int .i64 hard,.int .u64 ck,.bool tl]) ∧ args.length = na ∧ Own V w' (rowT 24 1 (.slice B na c') args.length (u64s args) :: rowT 59 12 u5 nG (cellsG G) :: ((G.map fun g => argT g.e) ++ ((({ d with hv:=hv,E:=A ++ d.E.drop k,Es:=Es } : StoD)).things S ++ (Xs ++ R))))):=Lib.hid ZO.out
      clear ZO
      go_wp2_with (first
       | (go_at_call 43; ((with_reducible refine (ze _).mono ?_); rintro e w2 ⟨rfl,g⟩; have c7b:=wkeep g c7; have y0:=wkeep g x0; have y1:=wkeep g x1; have y2:=wkeep g x2; have y3:=wkeep g x3; have y4:=wkeep g x4; have y5:=wkeep g x5; have y6:=wkeep g x6; have y7:=wkeep g x7; have y8:=wkeep g x8; have y9:=wkeep g x9; have y10:=wkeep g x10; have zo:=ZO2.out w2 g; clear ze))
       | (go_at_call 34; ((with_reducible refine zo.mono ?_); rintro e w3 ⟨BI,cI,rfl,_,H3⟩; have H4:=H3.swap.quiet ((Wider.refl w3).alloc (.cells #[.int .i64 tb,.string key,.string oth,.int .i64 ln,.int .i64 pr,.int .i64 bk,.slice BI na cI,.int .i64 idle,.int .i64 hard,.int .u64 ck,.bool tl,.int .i64 tag] 59)); have cl:=gone_lies w3 #[.int .i64 tb,.string key,.string oth,.int .i64 ln,.int .i64 pr,.int .i64 bk,.slice BI na cI,.int .i64 idle,.int .i64 hard,.int .u64 ck,.bool tl,.int .i64 tag]; have ONE:=newG_one tb key oth ln pr bk BI na cI idle hard ck tl tag; clear zo H3))
       | (at_builtin; refine wpList_append_thing rfl (.tmp 32) (.tmp 44) 46 rfl 59 i0 (.agg #[.int .i64 0,.string ⟨#[]⟩,.string ⟨#[]⟩,.int .i64 0,.int .i64 0,.int .i64 0,.slice none 0 0,.int .i64 0,.int .i64 0,.int .u64 0,.bool false,.int .i64 0]) 12 128 Tryz.underlying46 hi hz0 hz1 hz2 rfl (by decide) u5 nG (cellsG G) rfl H4 (some ⟨w3.heap.size,0,none⟩) 1 1 [.int .i64 tb,.string key,.string oth,.int .i64 ln,.int .i64 pr,.int .i64 bk,.slice BI na cI,.int .i64 idle,.int .i64 hard,.int .u64 ck,.bool tl,.int .i64 tag] rfl rfl (fun e => by cases e) cl ONE S1.out S2.out rfl rfl ?_; intro B3 c3 w5 H5; have H6:=own_mid5 H5; clear H4 H5 cl ONE)
       | (go_at_call 32; ((with_reducible refine (zr _ H6).mono ?_); rintro e w6 ⟨rfl,hv2,Es2,H7,he7⟩; have HH7:=Lib.hid (And.intro H7 he7); clear zr H6 H7 he7)))
      go_roundw
      all_goals have fn:StF ({ d with hv:=hv2,E:=A ++ d.E.drop (k + 1),Es:=Es2 } : StoD) Xs { s with L:=(A ++ d.E.drop (k + 1)).map HeldP.m } :=StF.cut (hv:=hv2) HE.out.f (A:=A) (B:=d.E.drop (k + 1)) (by show A ++ d.E.drop k = _; rw [HY.out.2.1]) HH7.out.2
      case rel =>
       refine ⟨k + 1,nA,A,G ++ [⟨⟨⟨tb,key,oth,ln,pr,bk,args,idle,hard,ck,tl⟩,.slice BI na cI⟩,tag⟩],hv2,Es2,_,by omega,rfl,rfl,HNA,Lib.hid ⟨fn,?_,?_⟩,?_⟩
       · rw [((out_next HY.out.1).2 (by rw [HY.out.2.2.1]; exact ct)).2]; exact HE.out.rest
       · rw [((out_next HY.out.1).2 (by rw [HY.out.2.2.1]; exact ct)).1,List.map_append,HE.out.out,HY.out.2.2.1]; rfl
       · have q:=own_back5 HH7.out.1
         have e:(G ++ [(⟨⟨⟨tb,key,oth,ln,pr,bk,args,idle,hard,ck,tl⟩,.slice BI na cI⟩,tag⟩ : GoneM)]).length = nG + 1:=by rw [List.length_append,HNG.out]; rfl
         rw [e]
         show Own V w6 (rowT 59 12 _ (nG + 1) (cellsG (G ++ [_])) :: ((G ++ [_]).map fun (g:GoneM) => argT g.e) ++ _)
         rw [cellsG_snoc,List.map_append]
         exact q
      case measure =>
       have slc:=fn.sliced HH7.out.1 (fun t ht => List.mem_append_right _ (.tail _ (.tail _ (List.mem_append_right _ (List.mem_append_left _ ht)))))
       obtain ⟨A2,cp2,ehv2,_⟩:=sto_row HH7.out.1 slc
       have ehv2:hv2 = .slice A2 (A ++ d.E.drop (k + 1)).length cp2:=ehv2
       have c7z:=blk_cell HH7.out.1.head 7 (v:=hv2) rfl
       rw [ehv2,List.length_append,HNA.out,List.length_drop,HX.out.1] at c7z
       have hme2:lenAt w6 S = nA + (nE - (k + 1)):=by unfold lenAt; rw [c7z]
       have e1:=hme0.out
       have e2:=HY.out.2.2.2.2.1
       simp [intOf,hme2,e1]; omega
  · obtain rfl:k = nE:=by omega
    have hd0:d.E.drop k = []:=List.drop_of_length_le (by rw [HX.out.1]; exact Nat.le_refl _)
    have ht0:d.E.take k = d.E:=List.take_of_length_le (by rw [HX.out.1]; exact Nat.le_refl _)
    have e0:nA + (k - k) = nA:=by omega
    rw [e0] at c7
    have a1:¬ (nA:Int) < (nA:Int):=by omega
    obtain ⟨BG,cG,ev⟩:=ownsRow_shape H.head
    have hfin:=HE.out
    have HD:=Lib.hid (And.intro hd0 (And.intro ht0 (And.intro ev H)))
    clear hdl hs hd0 ht0 ev H Hd fj slc ehv hfin
    go_wp2
    obtain ⟨hd0,ht0,ev,H⟩:=HD.out
    obtain ⟨ff,fr,fo⟩:=HE.out
    rw [hd0,List.append_nil] at ff H
    rw [ht0] at fr fo
    rw [ev] at H ⊢
    exact HQ.out _ _ ⟨BG,_,cG,G,A,hv,Es,rfl,rfl,fo,fr,ff,H⟩
end Go.Proofs.YtbnpelciceblfaaGreat
