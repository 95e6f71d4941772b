/- UCodeH UCodeI USetC USetD -/
import Derived.Test.YtbnpelciceblfaaGreatQ11
namespace Go.Proofs.YtbnpelciceblfaaGreat
set_option linter.unusedVariables false
open Go.ChangeShapes Go.WideShapes Go.ChangeAt Go.RowKit Go.Joins Go.Maps Go.ChangeMaps
set_option maxHeartbeats 64000000
theorem Own.rowStore {V w:World} {L:List Thing} {E:TypeId} {k B n c:Nat} {xs:List Value} (H:Own V w (rowT E k (.slice (some ⟨B,0,none⟩) n c) n xs :: L)) {j:Nat} {u:Value} (hj:j < xs.length) (hu:u.oneCell' = true) :
 Own V (w.setCell ⟨B,j,none⟩ u) (rowT E k (.slice (some ⟨B,0,none⟩) n c) n (xs.set j u) :: L):=by
 have h2:=ownsRow_store H.head hj hu
 refine H.turn (s:=rowT E k (.slice (some ⟨B,0,none⟩) n c) n (xs.set j u)) ?_ h2 (rowT_stable _ _ _ _ _) fun i hi => ⟨.inl hi,(h2.lt i (by simpa using hi)).2⟩
 exact setCell_but w ⟨B,j,none⟩ u
theorem cellsP_set:∀ (ps:List PlN) (j:Nat) (p:PlN),j < ps.length → (((((cellsP ps).set (j * 5) (.string p.x.key)).set (j * 5 + 1) (.string p.x.mask)).set (j * 5 + 2) (.int .i64 p.x.prio)).set (j * 5 + 3) (.int .i64 p.x.v)).set (j * 5 + 4) (.int .i64 (p.pl:Int)) = cellsP (ps.set j p)
 | [],j,p,h => absurd h (Nat.not_lt_zero _)
 | y :: ps,0,p,h => by rw [List.set_cons_zero,cellsP_cons,cellsP_cons]; rfl
 | y :: ps,j + 1,p,h => by
   have:=cellsP_set ps j p (by simpa using h)
   rw [cellsP_cons,List.set_cons_succ,cellsP_cons]
   have e:(j + 1) * 5 = j * 5 + 1 + 1 + 1 + 1 + 1:=by omega
   rw [e]
   simp only [List.set_cons_succ]
   rw [this]
theorem row_free {w:World} {E:TypeId} {k n c B:Nat} {xs:List Value} (h:w.ownsRow 0 E k (.slice (some ⟨B,0,none⟩) n c) n xs) (j:Nat):w.frozen? ⟨B,j,none⟩ = false:=by
 rcases h.2 with ⟨q,_⟩ | ⟨g,cap,cur,q,hb,hg,r⟩
 · cases q
 · injection q with q1 q2 q3
   injection q1 with q1
   injection q1 with q1
   subst q1
   exact blk_free hg j
theorem uputE_same {E:EntU} (hk:E.Pairwise fun a b => a.1 ≠ b.1) {k:ByteArray} {u:Value} (h:(k,u) ∈ E):E.Perm (uputE E k u):=by
 induction E with
 | nil => cases h
 | cons e E ih =>
   obtain ⟨h1,h2⟩:=List.pairwise_cons.1 hk
   unfold uputE
   rcases List.mem_cons.1 h with q | h
   · subst q
     have a:dropE ((k,u) :: E) k = E:=by
      unfold dropE
      rw [List.filter_cons,if_neg (by simp)]
      exact List.filter_eq_self.2 fun x hx => decide_eq_true (fun q => h1 x hx q.symm)
     rw [a]
   · have ne:=h1 _ h
     have a:dropE (e :: E) k = e :: dropE E k:=by unfold dropE; rw [List.filter_cons,if_pos (by simpa using ne)]
     rw [a]
     exact ((ih h2 h).cons e).trans (List.Perm.swap _ _ _)
theorem Own.map_same {V w:World} {L:List Thing} {M:Nat} {E:EntU} (H:Own V w (umapT M E :: L)) {k:ByteArray} {u:Value} (h:(k,u) ∈ E):Own V w (umapT M (uputE E k u) :: L):=by
 have hh:=H.head
 obtain ⟨D,ho,m⟩:=hh
 refine H.turn (s:=umapT M (uputE E k u)) (WBut.refl _ _) ⟨D,ho,m.perm (uputE_same m.keys h)⟩ (umapT_stable _ _) fun i hi => ⟨.inl hi,?_⟩
 obtain rfl:i = M:=by simpa using hi
 exact ho.lt
set_option maxRecDepth 20000 in
theorem ugput_1 {V w:World} {R:List Thing} {g:GrpN} (H:Own V w (g.things ++ R)) (hg:GoodG g) (p:PlN) {k:ByteArray} (hk:p.x.key = k) (hs:k.size < 1000000) (hl:(getR g.rows k).length < 1000000)
 {A B:List PlN} (r:RankN (getR g.rows k) p.x.prio A B true) :
 Calls Tryz.prog 145 #[ptrU g.b,aggP p] w fun e w' => ∃ v,e = .returned (.bool false) ∧ Own V w' (({ g with rows:=setR g.rows k v (A ++ p :: B) } : GrpN).things ++ R):=by
 obtain ⟨u0,hu,H0⟩:=H.focus hg.keys k
 have H0:Own V w (rowP u0 (getR g.rows k).length (getR g.rows k) :: blkT g.b #[.string g.mask,.map (some g.M),g.prv] 204 :: rowT 3 1 g.prv g.pr.length (intsU g.pr) :: umapT g.M (entR g.rows) :: ((dropR g.rows k).map rowThing ++ R)):=H0
 obtain ⟨p0,_,eps⟩ : ∃ p1:PlN,p1.x.prio = p.x.prio ∧ getR g.rows k = A ++ p1 :: B:=by
  rcases r.perm with ⟨_,p,h1,h2⟩ | ⟨h,_⟩
  · exact ⟨p,h1,h2⟩
  · cases h
 obtain ⟨ps,hps⟩ : ∃ ps,getR g.rows k = ps:=⟨_,rfl⟩
 rw [hps] at H0 r hl eps
 obtain ⟨n,hn⟩ : ∃ n,ps.length = n:=⟨_,rfl⟩
 rw [hn] at H0 hl
 obtain ⟨i,hi⟩ : ∃ i,A.length = i:=⟨_,rfl⟩
 have hin:i < n:=by rw [← hi,← hn,eps]; simp
 obtain ⟨B0,c0,rfl,hc⟩:=row_slice H0.head (by omega)
 have zr:=fun (W:World) (kw:Wider w W) => urank_c (ownsRow_wider H0.head kw) hn hl p.x.prio r
 rw [hi] at zr
 have lk:=fun (W:World) (kw:Wider w W) => look_u (t:=202) (e:=216) (z:=nilU) Tryz.underlying202 (Tryz.zeroValue216 W) (UMapAt.on H0.drop.drop.second kw) hs hu
 have c1:=blk_cell H0.second 1 (v:=.map (some g.M)) rfl
 obtain ⟨b,hb⟩ : ∃ b,g.b = b:=⟨_,rfl⟩
 obtain ⟨M,hM⟩ : ∃ M,g.M = M:=⟨_,rfl⟩
 rw [hb,hM] at c1
 rw [hM] at lk
 obtain ⟨⟨key,mask,prio,v⟩,pl⟩:=p
 obtain rfl:key = k:=hk
 have fin:(((((cellsP ps).set (i * 5) (.string key)).set (i * 5 + 1) (.string mask)).set (i * 5 + 2) (.int .i64 prio)).set (i * 5 + 3) (.int .i64 v)).set (i * 5 + 4) (.int .i64 (pl:Int)) = cellsP (A ++ ⟨⟨key,mask,prio,v⟩,pl⟩ :: B):=by
  have:=cellsP_set ps i ⟨⟨key,mask,prio,v⟩,pl⟩ (by omega)
  rw [this,eps,← hi]
  simp
 have HFIN:=Lib.hid fin
 have HL:Hid ((cellsP ps).length = n * 5):=Lib.hid (by rw [cellsP_length,hn])
 have HAB:Hid ((A ++ ⟨⟨key,mask,prio,v⟩,pl⟩ :: B).length = n):=Lib.hid (by
  have:=congrArg List.length eps
  rw [hn,List.length_append,List.length_cons] at this
  rw [List.length_append,List.length_cons]; omega)
 have hmem:(key,Value.slice (some ⟨B0,0,none⟩) n c0) ∈ entR g.rows:=by
  rcases hu with h | ⟨_,h⟩
  · exact h
  · cases h
 have HI:=Lib.hid (And.intro hb (And.intro hM (And.intro hmem hin)))
 have i0:(0:Int) ≤ (i:Int):=by omega
 have i1:(i:Int) < (n:Int):=by omega
 obtain ⟨x,hx⟩ : ∃ x,ps[i]? = some x:=⟨ps[i]'(by omega),List.getElem?_eq_getElem _⟩
 have HX:=Lib.hid hx
 have HC:=Lib.hid hc
 have H1:=H0.blk #[.string key,.string mask,.int .i64 prio,.int .i64 v,.int .i64 (pl:Int)] 207
 have H2:=H1.swap
 obtain ⟨W0,hW0⟩ : ∃ W0,w.alloc (.cells #[.string key,.string mask,.int .i64 prio,.int .i64 v,.int .i64 (pl:Int)] 207) = W0:=⟨_,rfl⟩
 have gW:Wider w W0:=by rw [← hW0]; exact (Wider.refl w).alloc _
 obtain ⟨B3,hB3⟩ : ∃ B3,w.heap.size = B3:=⟨_,rfl⟩
 rw [hW0,hB3] at H2
 rw [hb]
 clear H H1 hg hs hl r hu eps hps hn hi hb hM fin hx hc H0
 simp only at zr
 show Calls Tryz.prog 145 #[.pointer (some ⟨b,0,none⟩),.agg #[.string key,.string mask,.int .i64 prio,.int .i64 v,.int .i64 (pl:Int)]] w _
 go_enter Tryz.func145,Tryz.ntmps145
 go_upto_region 1 with (fail)
 try rw [hW0]
 try rw [hB3]
 have y0:=blk_cell H2.second 0 (v:=.string key) rfl
 have y2:=blk_cell H2.second 2 (v:=.int .i64 prio) rfl
 go_quiet (fail)
 have H3:=H2.quiet ((Wider.refl W0).drewN nq)
 have gW2:=gW.drewN nq
 have d1:=wkeep gW2 c1
 have lk1:=lk _ gW2
 clear H2 y0 y2 lk c1 hW0 hB3
 go_wp2_with (first
  | (go_at_call 147; ((with_reducible refine (zr _ gW2).mono ?_); rintro e w1 ⟨rfl,g1⟩; have H4:=H3.quiet g1; have gW3:=gW2.trans g1; have y0:=blk_cell H4.second 0 (v:=.string key) rfl; have y1:=blk_cell H4.second 1 (v:=.string mask) rfl; have y2:=blk_cell H4.second 2 (v:=.int .i64 prio) rfl; have y3:=blk_cell H4.second 3 (v:=.int .i64 v) rfl; have y4:=blk_cell H4.second 4 (v:=.int .i64 (pl:Int)) rfl; obtain ⟨k0,k1,k2,k3,k4⟩:=row_item (fun j u hu => wkeep gW3 (HC.out j u hu)) HX.out; have f0:=row_free H4.head (i * 5); have f1:=row_free H4.head (i * 5 + 1); have f2:=row_free H4.head (i * 5 + 2); have f3:=row_free H4.head (i * 5 + 3); have f4:=row_free H4.head (i * 5 + 4); clear zr H3 g1)))
 obtain ⟨hb,hM,hmem,hin⟩:=HI.out
 have hl5:=HL.out
 have H5:=((((H4.rowStore (j:=i * 5) (u:=.string key) (by omega) rfl).rowStore (j:=i * 5 + 1) (u:=.string mask) (by rw [List.length_set]; omega) rfl).rowStore (j:=i * 5 + 2) (u:=.int .i64 prio) (by rw [List.length_set,List.length_set]; omega) rfl).rowStore (j:=i * 5 + 3) (u:=.int .i64 v) (by rw [List.length_set,List.length_set,List.length_set]; omega) rfl).rowStore (j:=i * 5 + 4) (u:=.int .i64 (pl:Int)) (by rw [List.length_set,List.length_set,List.length_set,List.length_set]; omega) rfl
 rw [HFIN.out] at H5
 have H6:=((H5.swap.drop).fourth.map_same (by rw [← hM] at *; exact hmem)).third4
 clear H4 H5 k0 k1 k2 k3 k4 f0 f1 f2 f3 f4 y0 y1 y2 y3 y4
 go_ret
 refine ⟨.slice (some ⟨B0,0,none⟩) n c0,rfl,?_⟩
 subst hb hM
 refine Own.unfocus (g:=g) ?_
 rw [HAB.out]
 exact H6
set_option maxRecDepth 20000 in
theorem ugput_2 {V w:World} {R:List Thing} {g:GrpN} (H:Own V w (g.things ++ R)) (hg:GoodG g) (p:PlN) {k:ByteArray} (hk:p.x.key = k) (hs:k.size < 1000000) (hl:(getR g.rows k).length < 1000000) (hp:g.pr.length < 1000000) (hr:g.rows.length < 1000000)
 {A B:List PlN} {X Y:List Int} (r:RankN (getR g.rows k) p.x.prio A B false) (hXY:g.pr = X ++ Y) (hX:∀ x ∈ X,x < p.x.prio) (hY:∀ x ∈ Y,p.x.prio ≤ x) :
 Calls Tryz.prog 145 #[ptrU g.b,aggP p] w fun e w' => ∃ v u,e = .returned (.bool true) ∧ Own V w' (({ g with rows:=setR g.rows k v (A ++ p :: B),prv:=u,pr:=X ++ p.x.prio :: Y } : GrpN).things ++ R):=by
 obtain ⟨u0,hu,H0⟩:=H.focus hg.keys k
 have H0:Own V w (rowP u0 (getR g.rows k).length (getR g.rows k) :: blkT g.b #[.string g.mask,.map (some g.M),g.prv] 204 :: rowT 3 1 g.prv g.pr.length (intsU g.pr) :: umapT g.M (entR g.rows) :: ((dropR g.rows k).map rowThing ++ R)):=H0
 obtain ⟨_,eps,_⟩ : true = true ∧ getR g.rows k = A ++ B ∧ True:=by
  rcases r.perm with ⟨h,_⟩ | ⟨_,h,_⟩
  · cases h
  · exact ⟨rfl,h,trivial⟩
 obtain ⟨ps,hps⟩ : ∃ ps,getR g.rows k = ps:=⟨_,rfl⟩
 rw [hps] at H0 r hl eps
 obtain ⟨n,hn⟩ : ∃ n,ps.length = n:=⟨_,rfl⟩
 rw [hn] at H0 hl
 obtain ⟨i,hi⟩ : ∃ i,A.length = i:=⟨_,rfl⟩
 have hin:i ≤ n:=by rw [← hi,← hn,eps]; simp
 obtain ⟨A0,c0,rfl⟩:=ownsRow_shape H0.head
 have zr:=fun (W:World) (kw:Wider w W) => urank_c (ownsRow_wider H0.head kw) hn hl p.x.prio r
 rw [hi] at zr
 have zi:=fun {R':List Thing} {b:Nat} {ys:List Value} (W:World) (HW:Own V W (rowP (.slice A0 n c0) n ps :: blkT b ys.toArray 207 :: R')) (hy:ys.length = 5) (hy1:∀ u ∈ ys,u.oneCell' = true) => uinsP_1 HW hy (cellsP_one ps) hy1 hin hl
 have ecl:(cellsP ps).take (i * 5) ++ cellsU p ++ (cellsP ps).drop (i * 5) = cellsP (A ++ p :: B):=by rw [eps,← hi]; exact cells_more p
 obtain ⟨P0,cp,hpv⟩:=ownsRow_shape H0.drop.second
 obtain ⟨m,hm⟩ : ∃ m,g.pr.length = m:=⟨_,rfl⟩
 obtain ⟨x,hx⟩ : ∃ x,X.length = x:=⟨_,rfl⟩
 have hxm:x ≤ m:=by rw [← hx,← hm,hXY]; simp
 have hpv2:g.prv = .slice P0 m cp:=by rw [hpv,hm]
 have zb:=fun (W:World) (ow:W.ownsRow 0 3 1 (.slice P0 m cp) m (intsU g.pr)) => ubs_c (q:=p.x.prio) ow hm (by omega) hg.asc hXY hX hY
 rw [hx] at zb
 have eil:(intsU g.pr).take x ++ [Value.int .i64 p.x.prio] ++ (intsU g.pr).drop x = intsU (X ++ p.x.prio :: Y):=by rw [hXY,← hx]; exact ints_more p.x.prio
 have hXYl:(X ++ p.x.prio :: Y).length = m + 1:=by
  have:=congrArg List.length hXY
  rw [hm,List.length_append] at this
  rw [List.length_append,List.length_cons]; omega
 have zj:=fun {R':List Thing} {b:Nat} (W:World) (HW:Own V W (rowT 3 1 (.slice P0 m cp) m (intsU g.pr) :: blkT b [Value.int .i64 p.x.prio].toArray 3 :: R')) => uinsI_1 HW rfl (intsU_one g.pr) (by intro u hu; simp at hu; subst hu; rfl) hxm (by omega)
 simp only [eil] at zj
 rw [hpv2,hm] at H0
 have lk:=fun (W:World) (kw:Wider w W) => look_u (t:=202) (e:=216) (z:=nilU) Tryz.underlying202 (Tryz.zeroValue216 W) (UMapAt.on H0.drop.drop.second kw) hs hu
 have c1:=blk_cell H0.second 1 (v:=.map (some g.M)) rfl
 have hel:(entR g.rows).length < 1000000:=by unfold entR; rw [List.length_map]; exact hr
 obtain ⟨b,hb⟩ : ∃ b,g.b = b:=⟨_,rfl⟩
 obtain ⟨M,hM⟩ : ∃ M,g.M = M:=⟨_,rfl⟩
 rw [hb,hM] at c1 H0
 rw [hM] at lk
 obtain ⟨⟨key,mask,prio,v⟩,pl⟩:=p
 obtain rfl:key = k:=hk
 have HECL:=Lib.hid ecl
 have HEL:=Lib.hid hel
 have HKS:=Lib.hid hs
 have HXYL:=Lib.hid hXYl
 have HAB:Hid ((A ++ ⟨⟨key,mask,prio,v⟩,pl⟩ :: B).length = n + 1):=Lib.hid (by
  have:=congrArg List.length eps
  rw [hn,List.length_append] at this
  rw [List.length_append,List.length_cons]; omega)
 have HI:=Lib.hid (And.intro hb (And.intro hM hpv2))
 have ib:i ≤ 999999:=by omega
 have xb:x ≤ 999999:=by omega
 have H1:=H0.blk #[.string key,.string mask,.int .i64 prio,.int .i64 v,.int .i64 (pl:Int)] 207
 have H2:=H1.swap
 obtain ⟨W0,hW0⟩ : ∃ W0,w.alloc (.cells #[.string key,.string mask,.int .i64 prio,.int .i64 v,.int .i64 (pl:Int)] 207) = W0:=⟨_,rfl⟩
 have gW:Wider w W0:=by rw [← hW0]; exact (Wider.refl w).alloc _
 obtain ⟨B3,hB3⟩ : ∃ B3,w.heap.size = B3:=⟨_,rfl⟩
 rw [hW0,hB3] at H2
 rw [hb]
 clear H H1 hg hs hl hp hr r hu eps hps hn hi hb hM hXY hX hY ecl hpv hpv2 hm hx hel eil hXYl H0
 simp only at zr zb zj
 show Calls Tryz.prog 145 #[.pointer (some ⟨b,0,none⟩),.agg #[.string key,.string mask,.int .i64 prio,.int .i64 v,.int .i64 (pl:Int)]] w _
 go_enter Tryz.func145,Tryz.ntmps145
 go_upto_region 1 with (fail)
 try rw [hW0]
 try rw [hB3]
 have y0:=blk_cell H2.second 0 (v:=.string key) rfl
 have y2:=blk_cell H2.second 2 (v:=.int .i64 prio) rfl
 go_quiet (fail)
 have H3:=H2.quiet ((Wider.refl W0).drewN nq)
 have gW2:=gW.drewN nq
 have d1:=wkeep gW2 c1
 have lk1:=lk _ gW2
 clear H2 y0 y2 lk c1 hW0 hB3
 go_upto_region 7 with (first
  | (go_at_call 147; ((with_reducible refine (zr _ gW2).mono ?_); rintro e w1 ⟨rfl,g1⟩; have H4:=H3.quiet g1; clear zr H3 g1)))
 have H5:=(H4.blk [Value.string key,.string mask,.int .i64 prio,.int .i64 v,.int .i64 (pl:Int)].toArray 207).swap.quiet (Wider.refl _).drew
 have y0:=blk_cell H4.second 0 (v:=.string key) rfl
 have y1:=blk_cell H4.second 1 (v:=.string mask) rfl
 have y2:=blk_cell H4.second 2 (v:=.int .i64 prio) rfl
 have y3:=blk_cell H4.second 3 (v:=.int .i64 v) rfl
 have y4:=blk_cell H4.second 4 (v:=.int .i64 (pl:Int)) rfl
 have m1:=blk_cell H4.drop.second 1 (v:=.map (some M)) rfl
 have m1b:=fun o => kalloc (o:=o) m1
 have zi2:=zi _ H5 rfl (by intro u hu; simp at hu; rcases hu with rfl | rfl | rfl | rfl | rfl <;> rfl)
 clear zi d1 lk1
 go_region_law (first
  | (go_simp; go_at_call 158; ((with_reducible refine zi2.mono ?_); rintro e w2 ⟨B',c',rfl,H6⟩; have H6b:=H6.swap.drop; have m1c:=blk_cell H6b.second 1 (v:=.map (some M)) rfl; have H7:=H6b.fourth; obtain ⟨w3,hrun,H8⟩:=store_u (t:=202) (e:=216) Tryz.underlying202 H7 HEL.out HKS.out (.slice B' (n + 1) c'); clear H6 H7)))
 all_goals
  have c2:=blk_cell H8.drop.second 2 (v:=.slice P0 m cp) rfl
  clear y0 y1 y2 y3 y4 m1 m1b zi2 H4 H5 H6b hrun m1c
  go_wp2_with (first
   | (go_at_call 152; ((with_reducible refine (zb _ H8.fourth.head).mono ?_); rintro e w5 ⟨⟨bb,rfl⟩,g5⟩; have H9:=(H8.quiet g5).fourth; have c2b:=wkeep g5 c2; have H9b:=(H9.blk [Value.int .i64 prio].toArray 3).swap; clear zb H8 c2 g5 H9))
   | (go_at_call 159; ((with_reducible refine (zj _ H9b).mono ?_); rintro e w6 ⟨B2,c3,rfl,H10⟩; have H10b:=H10.fourth; have f2:=blk_free H10b.head 2; have c2c:=blk_cell H10b.head 2 (v:=.slice P0 m cp) rfl; have H11:=(H10b.store 2 (.slice B2 (m + 1) c3)).fourth; clear H9b H10 H10b c2b zj)))
  go_ret
  refine ⟨.slice B' (n + 1) c',.slice B2 (m + 1) c3,rfl,?_⟩
  obtain ⟨hb,hM,hpv⟩:=HI.out
  subst hb hM
  refine Own.unfocus (g:=g) ?_
  have e:(cellsP ps).take (i * 5) ++ [Value.string key,.string mask,.int .i64 prio,.int .i64 v,.int .i64 (pl:Int)] ++ (cellsP ps).drop (i * 5) = cellsP (A ++ ⟨⟨key,mask,prio,v⟩,pl⟩ :: B):=HECL.out
  rw [e] at H11
  rw [HAB.out,HXYL.out]
  exact H11
def entG (gs:List GrpN):EntU:=gs.map fun g => (g.mask,ptrU g.b)
def gmT:Option Nat → EntU → Thing
 | none,_ => ([],fun _ => True)
 | some M,E => umapT M E
abbrev setC (gm:Option Nat) (ov:Value) (items last:Nat):Array Value:=#[.map gm,ov,.int .i64 (items:Int),.int .i64 (last:Int)]
abbrev blkS (A:Nat) (gm:Option Nat) (ov:Value) (items last:Nat):Thing:=blkT A (setC gm ov items last) 134
abbrev ordT (ov:Value) (gs:List GrpN):Thing:=rowT 199 1 ov gs.length (ptrsU gs)
def grpsT (gs:List GrpN):List Thing:=gs.flatMap GrpN.things
def SetN.things (s:SetN):List Thing:=blkS s.A s.gm s.ov s.items s.last :: ordT s.ov s.gs :: gmT s.gm (entG s.gs) :: grpsT s.gs
theorem grpsT_mid (A B:List GrpN) (g:GrpN):(grpsT (A ++ g :: B)).Perm (g.things ++ grpsT (A ++ B)):=by
 unfold grpsT
 rw [List.flatMap_append,List.flatMap_append,List.flatMap_cons,← List.append_assoc,← List.append_assoc]
 exact List.perm_append_comm.append_right _
theorem entG_mid {A B:List GrpN} {g:GrpN} (h:MasksS (A ++ g :: B)):dropE (entG (A ++ g :: B)) g.mask = entG (A ++ B):=by
 obtain ⟨_,k⟩:=masks_less h
 unfold entG dropE
 rw [List.map_append,List.map_cons,List.filter_append,List.filter_cons,if_neg (by simp),List.map_append]
 congr 1
 · refine List.filter_eq_self.2 fun e he => ?_
   obtain ⟨y,hy,rfl⟩:=List.mem_map.1 he
   exact decide_eq_true (k y (List.mem_append_left _ hy))
 · refine List.filter_eq_self.2 fun e he => ?_
   obtain ⟨y,hy,rfl⟩:=List.mem_map.1 he
   exact decide_eq_true (k y (List.mem_append_right _ hy))
theorem entG_put {A B:List GrpN} {g:GrpN} (k:∀ x ∈ A ++ B,x.mask ≠ g.mask):(uputE (entG (A ++ B)) g.mask (ptrU g.b)).Perm (entG (A ++ g :: B)):=by
 have e:dropE (entG (A ++ B)) g.mask = entG (A ++ B):=List.filter_eq_self.2 fun e he => by
  obtain ⟨y,hy,rfl⟩:=List.mem_map.1 he
  exact decide_eq_true (k y hy)
 unfold uputE
 rw [e]
 unfold entG
 rw [List.map_append,List.map_append,List.map_cons]
 exact List.perm_middle.symm
theorem Own.map_perm {V w:World} {L:List Thing} {M:Nat} {E F:EntU} (H:Own V w (umapT M E :: L)) (p:E.Perm F):Own V w (umapT M F :: L):=by
 obtain ⟨D,ho,m⟩:=H.head
 refine H.turn (s:=umapT M F) (WBut.refl _ _) ⟨D,ho,m.perm p⟩ (umapT_stable _ _) fun i hi => ⟨.inl hi,?_⟩
 obtain rfl:i = M:=by simpa using hi
 exact ho.lt
theorem grps_at {w:World} {gs:List GrpN} (h:∀ t ∈ grpsT gs,t.2 w) {g:GrpN} (hg:g ∈ gs):GrpAt w g:=grp_of fun t ht => h t (List.mem_flatMap.2 ⟨g,hg,ht⟩)
structure FewG (g:GrpN):Prop where
 good:GoodG g
 pr0:0 < g.pr.length
 pr1:g.pr.length < 1000000
theorem few_of {g:GrpN} (h:GoodG g) (hr:g.rows ≠ []) (n:g.flat.length < 1000000):FewG g:=by
 have e:=h.prs.length_eq
 rw [List.length_map] at e
 refine ⟨h,?_,by omega⟩
 rw [e]
 obtain ⟨r,l,hrl⟩ : ∃ r l,g.rows = r :: l:=by
  cases q:g.rows with
  | nil => exact absurd q hr
  | cons r l => exact ⟨r,l,rfl⟩
 have ne:=h.ne r (by rw [hrl]; exact .head _)
 unfold GrpN.flat
 rw [hrl,flatR_cons,List.length_append]
 have:=List.length_pos_iff.2 ne
 omega
theorem perm_mid {α:Type} (X Y Z:List α):(X ++ (Y ++ Z)).Perm (Y ++ (X ++ Z)):=by
 rw [← List.append_assoc,← List.append_assoc]
 exact List.perm_append_comm.append_right _
theorem utake_new {V w:World} {R:List Thing} {s:SetN} (H:Own V w (s.things ++ R)) {mask:ByteArray} (hm:mask.size < 1000000) (hno:∀ g ∈ s.gs,g.mask ≠ mask) :
 Calls Tryz.prog 139 #[ptrU s.A,.string mask] w fun e w' => ∃ b M,e = .returned (ptrU b) ∧ Own V w' (s.things ++ ((⟨b,M,mask,nilU,[],[]⟩ : GrpN).things ++ R)):=by
 obtain ⟨A,gm,ov,gs,items,last⟩:=s
 have c0:=blk_cell H.head 0 (v:=.map gm) rfl
 have lk:(Instr.lookup 131 (.map gm) (.string mask) false).run Tryz.prog w = .ok (.pointer none) w:=by
  cases gm with
  | none => exact look_nil_u (t:=131) (e:=199) Tryz.underlying131 (Tryz.zeroValue199 w) hm
  | some M => exact look_u (t:=131) (e:=199) Tryz.underlying131 (Tryz.zeroValue199 w) (H.holds _ (.tail _ (.tail _ (.head _)))) hm (.inr ⟨fun v hv => by
   obtain ⟨g,hg,e⟩:=List.mem_map.1 hv
   exact hno g hg (by injection e),rfl⟩)
 have zc:=uclone_c mask hm
 have HH:=Lib.hid H
 clear H hno
 show Calls Tryz.prog 139 #[.pointer (some ⟨A,0,none⟩),.string mask] w _
 have hmm:=@run_makeMap Tryz.prog
 go_enter Tryz.func139,Tryz.ntmps139
 go_wp2_with (first
  | (go_at_call 49; ((with_reducible refine (zc _).mono ?_); rintro e w1 ⟨rfl,g1⟩; have H1:=HH.out.quiet g1; clear HH zc)))
 have H2:=(H1.map_made).blk #[.string mask,.map (some w1.heap.size),.slice none 0 0] 204
 have e1:(w1.alloc (.map #[] 0)).heap.size = w1.heap.size + 1:=by simp
 rw [e1] at H2
 have H3:=(H2.row (Wider.refl _) (World.ownsRow_nil _ _ 3 1)).swap
 go_ret
 refine ⟨w1.heap.size + 1,w1.heap.size,rfl,H3.perm ?_⟩
 exact perm_mid ((⟨w1.heap.size + 1,w1.heap.size,mask,nilU,[],[]⟩ : GrpN).things) ((⟨A,gm,ov,gs,items,last⟩ : SetN).things) R
theorem gm_some {s:SetN} (h:GoodS s) {g:GrpN} (hg:g ∈ s.gs):∃ M,s.gm = some M:=by
 cases q:s.gm with
 | none => rw [h.gm q] at hg; cases hg
 | some M => exact ⟨M,rfl⟩
set_option maxRecDepth 20000 in
theorem utake_old {V w:World} {R:List Thing} {s:SetN} (H:Own V w (s.things ++ R)) (hs:GoodS s) (hf:∀ g ∈ s.gs,FewG g) (hn:s.gs.length < 1000000) {A B:List GrpN} {g:GrpN} (e:s.gs = A ++ g :: B) (hm:g.mask.size < 1000000) :
 Calls Tryz.prog 139 #[ptrU s.A,.string g.mask] w fun e w' => ∃ u,e = .returned (ptrU g.b) ∧ Own V w' (({ s with ov:=u,gs:=A ++ B } : SetN).things ++ (g.things ++ R)):=by
 obtain ⟨M,hM⟩:=gm_some hs (g:=g) (by rw [e]; exact List.mem_append_right _ (.head _))
 have hord:=hs.ord
 have hmask:=hs.masks
 obtain ⟨S,gm,ov,gs,items,last⟩:=s
 simp only at hM e hf hn hord hmask
 subst hM
 have H:Own V w (blkS S (some M) ov items last :: ordT ov gs :: umapT M (entG gs) :: (grpsT gs ++ R)):=H
 have hg1:g ∈ gs:=by rw [e]; exact List.mem_append_right _ (.head _)
 have c0:=blk_cell H.head 0 (v:=.map (some M)) rfl
 have lk:=look_u (t:=131) (e:=199) Tryz.underlying131 (Tryz.zeroValue199 w) H.drop.second hm (.inl (List.mem_map.2 ⟨g,hg1,rfl⟩ : (g.mask,ptrU g.b) ∈ entG gs))
 have hgr:∀ y ∈ gs,GrpAt w y:=fun y hy => grps_at (fun t ht => H.holds t (.tail _ (.tail _ (.tail _ (List.mem_append_left _ ht))))) hy
 have ed:dropE (entG gs) g.mask = entG (A ++ B):=by rw [e]; exact entG_mid (by rw [← e]; exact hmask)
 obtain ⟨n,hn1⟩ : ∃ n,gs.length = n:=⟨_,rfl⟩
 rw [hn1] at hn
 have HO:w.ownsRow 0 199 1 ov n (ptrsU gs):=by rw [← hn1]; exact H.second
 obtain ⟨O0,c1,rfl⟩:=ownsRow_shape HO
 obtain ⟨i,hi⟩ : ∃ i,A.length = i:=⟨_,rfl⟩
 have hin:i < n:=by rw [← hi,← hn1,e]; simp
 obtain ⟨oA,oB⟩:=ord_at (by rw [← e]; exact hord)
 have zb:=fun {R':List Thing} (W:World) (HW:Own V W (umapT M (entG (A ++ B)) :: blkS S (some M) (.slice O0 n c1) items last :: rowT 199 1 (.slice O0 n c1) n (ptrsU gs) :: (grpsT gs ++ R'))) =>
  usearchG_c (t:=g) HW.drop.second hn1 hn (fun y hy => ⟨grps_at (fun t ht => HW.holds t (.tail _ (.tail _ (.tail _ (List.mem_append_left _ ht))))) hy,(hf y hy).pr0,(hf y hy).pr1⟩) ⟨grps_at (fun t ht => HW.holds t (.tail _ (.tail _ (.tail _ (List.mem_append_left _ ht))))) hg1,(hf g hg1).pr0,(hf g hg1).pr1⟩ e oA oB
 rw [hi] at zb
 have zd:=fun {R':List Thing} (W:World) (HW:Own V W (rowT 199 1 (.slice O0 n c1) n (ptrsU gs) :: R')) => udelG_1 HW (ptrsU_one gs) hin hn
 have ecl:(ptrsU gs).take i ++ (ptrsU gs).drop (i + 1) = ptrsU (A ++ B):=by
  unfold ptrsU
  rw [e,← hi,List.map_append,List.map_append,List.map_cons,List.take_left' (by simp)]
  congr 1
  rw [show A.length + 1 = (A.map fun g => ptrU g.b).length + 1 by simp,List.drop_append]
  simp
 simp only [ecl] at zd
 have hAB:(A ++ B).length = n - 1:=by
  have:=congrArg List.length e
  rw [hn1,List.length_append,List.length_cons] at this
  rw [List.length_append]; omega
 have HR:=Lib.hid (And.intro hAB (And.intro e ed))
 obtain ⟨H1,_⟩ : Own V w (umapT M (entG gs) :: blkS S (some M) (.slice O0 n c1) items last :: rowT 199 1 (.slice O0 n c1) n (ptrsU gs) :: (grpsT gs ++ R)) ∧ True:=⟨by have q:=H.third; unfold ordT at q; rw [hn1] at q; exact q,trivial⟩
 have HM:=Lib.hid hm
 have ib:i ≤ 999999:=by omega
 obtain ⟨gb,hgb⟩ : ∃ gb,g.b = gb:=⟨_,rfl⟩
 rw [hgb] at lk zb ⊢
 obtain ⟨mask,hmk⟩ : ∃ mask,g.mask = mask:=⟨_,rfl⟩
 rw [hmk] at lk ⊢
 rw [hmk] at HM
 have HMK:=Lib.hid hmk
 unfold ptrU at lk zb
 clear H hs hf e hm hord hmask hg1 hgr ed hn1 HO hi oA oB ecl hAB hgb hmk
 show Calls Tryz.prog 139 #[.pointer (some ⟨S,0,none⟩),.string mask] w _
 go_enter Tryz.func139,Tryz.ntmps139
 go_wp2_with (first
  | (at_delete; refine wpList_drop_u _ rfl (.tmp 24) (.tmp 25) 131 199 rfl Tryz.underlying131 H1 HM.out rfl rfl ?_; intro w1 H2; rw [← HMK.out,HR.out.2.2] at H2; have d1:=blk_cell H2.second 1 (v:=.slice O0 n c1) rfl; clear H1 lk c0)
  | (go_at_call 148; ((with_reducible refine (zb _ H2).mono ?_); rintro e w2 ⟨⟨bb,rfl⟩,g2⟩; have H3:=(H2.quiet g2).third; have d2:=wkeep g2 d1; clear zb H2 d1 g2))
  | (go_at_call 150; ((with_reducible refine (zd _ H3).mono ?_); rintro e w3 ⟨rfl,H4⟩; have H5:=H4.third; have d3:=blk_cell H5.head 1 (v:=.slice O0 n c1) rfl; have f3:=blk_free H5.head 1; have H6:=H5.store 1 (.slice O0 (n - 1) c1); clear zd H3 H4 H5 d2)))
 go_ret
 refine ⟨.slice O0 (n - 1) c1,rfl,?_⟩
 obtain ⟨hAB,e,_⟩:=HR.out
 have H7:Own V (w3.setCell ⟨S,1,none⟩ (.slice O0 (n - 1) c1)) (blkS S (some M) (.slice O0 (n - 1) c1) items last :: rowT 199 1 (.slice O0 (n - 1) c1) (n - 1) (ptrsU (A ++ B)) :: umapT M (entG (A ++ B)) :: (grpsT gs ++ R)):=H6
 rw [← hAB] at H7 ⊢
 refine H7.perm (((List.Perm.cons _ (List.Perm.cons _ (List.Perm.cons _ ?_)))))
 rw [e]
 refine ((grpsT_mid A B g).append_right R).trans ?_
 rw [List.append_assoc]
 exact perm_mid _ _ _
set_option maxRecDepth 20000 in
theorem uenter_some {V w:World} {R:List Thing} {S M items last:Nat} {ov:Value} {gs:List GrpN} {g:GrpN} (H:Own V w ((⟨S,some M,ov,gs,items,last⟩ : SetN).things ++ (g.things ++ R))) (hO:OrdS gs) (hk:∀ x ∈ gs,x.mask ≠ g.mask) (hf:∀ y ∈ gs,FewG y) (fg:FewG g) (hn:gs.length < 999999) (hm:g.mask.size < 1000000)
 {A B:List GrpN} (e:gs = A ++ B) (hA:∀ x ∈ A,aheadN x g < 0) (hB:∀ x ∈ B,¬ aheadN x g < 0) :
 Calls Tryz.prog 141 #[ptrU S,ptrU g.b] w fun e w' => ∃ M u,e = .returned (.tuple #[]) ∧ Own V w' ((⟨S,some M,u,A ++ g :: B,items,last⟩ : SetN).things ++ R):=by
 have H:Own V w (blkS S (some M) ov items last :: ordT ov gs :: gmT (some M) (entG gs) :: (grpsT gs ++ (g.things ++ R))):=H
 obtain ⟨n,hn1⟩ : ∃ n,gs.length = n:=⟨_,rfl⟩
 rw [hn1] at hn
 obtain ⟨i,hi⟩ : ∃ i,A.length = i:=⟨_,rfl⟩
 have hin:i ≤ n:=by rw [← hi,← hn1,e]; simp
 have hp2:(uputE (entG gs) g.mask (ptrU g.b)).Perm (entG (A ++ g :: B)):=by rw [e]; exact entG_put (by rw [← e]; exact hk)
 have HO:w.ownsRow 0 199 1 ov n (ptrsU gs):=by have q:=H.second; unfold ordT at q; rw [hn1] at q; exact q
 obtain ⟨O0,c1,rfl⟩:=ownsRow_shape HO
 have zb:=fun {R':List Thing} {E:EntU} (W:World) (HW:Own V W (umapT M E :: blkS S (some M) (.slice O0 n c1) items last :: rowT 199 1 (.slice O0 n c1) n (ptrsU gs) :: (grpsT gs ++ (g.things ++ R')))) =>
  usearchG_c (t:=g) HW.drop.second hn1 (by omega) (fun y hy => ⟨grps_at (fun t ht => HW.holds t (.tail _ (.tail _ (.tail _ (List.mem_append_left _ ht))))) hy,(hf y hy).pr0,(hf y hy).pr1⟩) ⟨grp_of (fun t ht => HW.holds t (.tail _ (.tail _ (.tail _ (List.mem_append_right _ (List.mem_append_left _ ht)))))),fg.pr0,fg.pr1⟩ e hA hB
 rw [hi] at zb
 have zi:=fun {R':List Thing} {b:Nat} (W:World) (HW:Own V W (rowT 199 1 (.slice O0 n c1) n (ptrsU gs) :: blkT b [ptrU g.b].toArray 199 :: R')) => uinsG_1 HW rfl (ptrsU_one gs) (by intro u hu; simp at hu; subst hu; rfl) hin (by omega)
 have ecl:(ptrsU gs).take i ++ [ptrU g.b] ++ (ptrsU gs).drop i = ptrsU (A ++ g :: B):=by
  unfold ptrsU
  rw [e,← hi,List.map_append,List.map_append,List.map_cons,List.take_left' (by simp),List.drop_left' (by simp)]
  simp
 simp only [ecl] at zi
 have hAB:(A ++ g :: B).length = n + 1:=by
  have:=congrArg List.length e
  rw [hn1,List.length_append] at this
  rw [List.length_append,List.length_cons]; omega
 have HR:=Lib.hid (And.intro hAB (And.intro e hp2))
 have hel:(entG gs).length < 1000000:=by unfold entG; rw [List.length_map,hn1]; omega
 have HM:=Lib.hid (And.intro hm hel)
 have ib:i ≤ 999999:=by omega
 obtain ⟨gb,hgb⟩ : ∃ gb,g.b = gb:=⟨_,rfl⟩
 obtain ⟨mask,hmk⟩ : ∃ mask,g.mask = mask:=⟨_,rfl⟩
 have cg:=blk_cell (H.holds (blkG g) (.tail _ (.tail _ (.tail _ (List.mem_append_right _ (List.mem_append_left _ (.head _))))))) 0 (v:=.string g.mask) rfl
 have c0:=blk_cell H.head 0 (v:=.map (some M)) rfl
 obtain ⟨H1,_⟩ : Own V w (umapT M (entG gs) :: blkS S (some M) (.slice O0 n c1) items last :: rowT 199 1 (.slice O0 n c1) n (ptrsU gs) :: (grpsT gs ++ (g.things ++ R))) ∧ True:=⟨by have q:=H.third; unfold ordT at q; rw [hn1] at q; exact q,trivial⟩
 rw [hgb] at zb zi cg ⊢
 rw [hmk] at cg HM
 have HMK:=Lib.hid (And.intro hmk hgb)
 unfold ptrU at zb zi
 clear H hO hk hf fg hm hn1 HO hi hp2 hA hB ecl hAB hel e hgb hmk
 show Calls Tryz.prog 141 #[.pointer (some ⟨S,0,none⟩),.pointer (some ⟨gb,0,none⟩)] w _
 have heq:=fun w => run_eql_map_nil (P:=Tryz.prog) w 131 9 199 (some M) Tryz.underlying131
 go_enter Tryz.func141,Tryz.ntmps141
 go_upto_region 2 with (fail)
 go_still_tail 9,(by kernel_rfl)
 change wpList _ _ _ _ _ (World.drew _)
 have H2:=H1.quiet (Wider.refl _).drew
 clear H1 c0 cg
 go_wp2_with (first
  | (at_mapUpdate; refine wpList_store_u _ rfl (.tmp 18) (.tmp 22) (.tmp 23) 131 199 rfl Tryz.underlying131 H2 HM.out.2 HM.out.1 (.pointer (some ⟨gb,0,none⟩)) rfl rfl rfl ?_; intro w1 H3a; rw [← HMK.out.1,← HMK.out.2] at H3a; have H3:=H3a.map_perm HR.out.2.2; have d1:=blk_cell H3.second 1 (v:=.slice O0 n c1) rfl; clear H2 H3a)
  | (go_at_call 148; ((with_reducible refine (zb _ H3).mono ?_); rintro e w2 ⟨⟨bb,rfl⟩,g2⟩; have H4:=(((H3.quiet g2).third).blk [Value.pointer (some ⟨gb,0,none⟩)].toArray 199).swap; have d2:=wkeep g2 d1; clear zb H3 d1 g2))
  | (go_at_call 154; ((with_reducible refine (zi _ H4).mono ?_); rintro e w3 ⟨B2,c3,rfl,H5⟩; have H6:=H5.third; have d3:=blk_cell H6.head 1 (v:=.slice O0 n c1) rfl; have f3:=blk_free H6.head 1; have H7:=H6.store 1 (.slice B2 (n + 1) c3); clear zi H4 H5 H6 d2)))
 simp [bodyPost,results,Tryz.results141,go_sem]
 refine ⟨M,.slice B2 (n + 1) c3,?_⟩
 obtain ⟨hAB,e,_⟩:=HR.out
 have H8:Own V (w3.setCell ⟨S,1,none⟩ (.slice B2 (n + 1) c3)) (blkS S (some M) (.slice B2 (n + 1) c3) items last :: rowT 199 1 (.slice B2 (n + 1) c3) (n + 1) (ptrsU (A ++ g :: B)) :: umapT M (entG (A ++ g :: B)) :: (grpsT gs ++ (g.things ++ R))):=H7
 rw [← hAB] at H8 ⊢
 refine H8.perm (((List.Perm.cons _ (List.Perm.cons _ (List.Perm.cons _ ?_)))))
 rw [e]
 refine (perm_mid _ _ _).trans ?_
 rw [← List.append_assoc]
 exact (grpsT_mid A B g).symm.append_right R
set_option maxRecDepth 20000 in
theorem uenter_none {V w:World} {R:List Thing} {S items last:Nat} {ov:Value} {gs:List GrpN} {g:GrpN} (H:Own V w ((⟨S,none,ov,gs,items,last⟩ : SetN).things ++ (g.things ++ R))) (hO:OrdS gs) (hk:∀ x ∈ gs,x.mask ≠ g.mask) (hf:∀ y ∈ gs,FewG y) (fg:FewG g) (hn:gs.length < 999999) (hm:g.mask.size < 1000000)
 {A B:List GrpN} (e:gs = A ++ B) (hA:∀ x ∈ A,aheadN x g < 0) (hB:∀ x ∈ B,¬ aheadN x g < 0) (hnil:gs = []) :
 Calls Tryz.prog 141 #[ptrU S,ptrU g.b] w fun e w' => ∃ M u,e = .returned (.tuple #[]) ∧ Own V w' ((⟨S,some M,u,A ++ g :: B,items,last⟩ : SetN).things ++ R):=by
 have H:Own V w (blkS S (none) ov items last :: ordT ov gs :: gmT (none) (entG gs) :: (grpsT gs ++ (g.things ++ R))):=H
 obtain ⟨M,hM⟩ : ∃ M,w.heap.size = M:=⟨_,rfl⟩
 obtain ⟨n,hn1⟩ : ∃ n,gs.length = n:=⟨_,rfl⟩
 rw [hn1] at hn
 obtain ⟨i,hi⟩ : ∃ i,A.length = i:=⟨_,rfl⟩
 have hin:i ≤ n:=by rw [← hi,← hn1,e]; simp
 have hp2:(uputE (entG gs) g.mask (ptrU g.b)).Perm (entG (A ++ g :: B)):=by rw [e]; exact entG_put (by rw [← e]; exact hk)
 have HO:w.ownsRow 0 199 1 ov n (ptrsU gs):=by have q:=H.second; unfold ordT at q; rw [hn1] at q; exact q
 obtain ⟨O0,c1,rfl⟩:=ownsRow_shape HO
 have zb:=fun {R':List Thing} {E:EntU} (W:World) (HW:Own V W (umapT M E :: blkS S (some M) (.slice O0 n c1) items last :: rowT 199 1 (.slice O0 n c1) n (ptrsU gs) :: (grpsT gs ++ (g.things ++ R')))) =>
  usearchG_c (t:=g) HW.drop.second hn1 (by omega) (fun y hy => ⟨grps_at (fun t ht => HW.holds t (.tail _ (.tail _ (.tail _ (List.mem_append_left _ ht))))) hy,(hf y hy).pr0,(hf y hy).pr1⟩) ⟨grp_of (fun t ht => HW.holds t (.tail _ (.tail _ (.tail _ (List.mem_append_right _ (List.mem_append_left _ ht)))))),fg.pr0,fg.pr1⟩ e hA hB
 rw [hi] at zb
 have zi:=fun {R':List Thing} {b:Nat} (W:World) (HW:Own V W (rowT 199 1 (.slice O0 n c1) n (ptrsU gs) :: blkT b [ptrU g.b].toArray 199 :: R')) => uinsG_1 HW rfl (ptrsU_one gs) (by intro u hu; simp at hu; subst hu; rfl) hin (by omega)
 have ecl:(ptrsU gs).take i ++ [ptrU g.b] ++ (ptrsU gs).drop i = ptrsU (A ++ g :: B):=by
  unfold ptrsU
  rw [e,← hi,List.map_append,List.map_append,List.map_cons,List.take_left' (by simp),List.drop_left' (by simp)]
  simp
 simp only [ecl] at zi
 have hAB:(A ++ g :: B).length = n + 1:=by
  have:=congrArg List.length e
  rw [hn1,List.length_append] at this
  rw [List.length_append,List.length_cons]; omega
 have HR:=Lib.hid (And.intro hAB (And.intro e hp2))
 have hel:(entG gs).length < 1000000:=by unfold entG; rw [List.length_map,hn1]; omega
 have HM:=Lib.hid (And.intro hm hel)
 have ib:i ≤ 999999:=by omega
 obtain ⟨gb,hgb⟩ : ∃ gb,g.b = gb:=⟨_,rfl⟩
 obtain ⟨mask,hmk⟩ : ∃ mask,g.mask = mask:=⟨_,rfl⟩
 have cg:=blk_cell (H.holds (blkG g) (.tail _ (.tail _ (.tail _ (List.mem_append_right _ (List.mem_append_left _ (.head _))))))) 0 (v:=.string g.mask) rfl
 have c0:=blk_cell H.head 0 (v:=.map none) rfl
 have f0:=blk_free H.head 0
 obtain ⟨H1,_⟩ : Own V ((w.alloc (.map #[] 0)).setCell ⟨S,0,none⟩ (.map (some M))) (umapT M (entG gs) :: blkS S (some M) (.slice O0 n c1) items last :: rowT 199 1 (.slice O0 n c1) n (ptrsU gs) :: (grpsT gs ++ (g.things ++ R))) ∧ True:=by
  have q:=H.third.drop
  unfold ordT at q
  rw [hn1] at q
  have q2:=((q.map_made).swap.store 0 (.map (some M))).swap
  rw [hM] at q2
  rw [hnil]
  exact ⟨by rw [hnil] at q2; exact q2,trivial⟩
 have cg1:=kalloc (o:=.map #[] 0) cg
 have c01:=kalloc (o:=.map #[] 0) c0
 have f01:(w.alloc (.map #[] 0)).frozen? ⟨S,0,none⟩ = false:=blk_free (H.quiet ((Wider.refl w).alloc (.map #[] 0))).head 0
 have hmm:=@run_makeMap Tryz.prog
 rw [hgb] at zb zi cg ⊢
 rw [hmk] at cg HM
 have HMK:=Lib.hid (And.intro hmk hgb)
 unfold ptrU at zb zi
 clear H hO hk hf fg hm hn1 HO hi hp2 hA hB ecl hAB hel e hgb hmk
 show Calls Tryz.prog 141 #[.pointer (some ⟨S,0,none⟩),.pointer (some ⟨gb,0,none⟩)] w _
 have heq:=fun w => run_eql_map_nil (P:=Tryz.prog) w 131 9 199 none Tryz.underlying131
 go_enter Tryz.func141,Tryz.ntmps141
 go_upto_region 2 with (fail)
 obtain ⟨W0,hW0⟩ : ∃ W0,((w.alloc (.map #[] 0)).setCell ⟨S,0,none⟩ (.map (some M))) = W0:=⟨_,rfl⟩
 rw [hW0] at H1
 try rw [hM]
 try rw [hW0]
 have c0:=blk_cell H1.second 0 (v:=.map (some M)) rfl
 have cg:=blk_cell (H1.holds (blkG g) (.tail _ (.tail _ (.tail _ (List.mem_append_right _ (List.mem_append_left _ (.head _))))))) 0 (v:=.string g.mask) rfl
 rw [HMK.out.1,HMK.out.2] at cg
 clear hW0 hM cg1 c01 f01 f0 hmm
 go_still_tail 9,(by kernel_rfl)
 change wpList _ _ _ _ _ (World.drew _)
 have H2:=H1.quiet (Wider.refl _).drew
 clear H1 c0 cg
 go_wp2_with (first
  | (at_mapUpdate; refine wpList_store_u _ rfl (.tmp 18) (.tmp 22) (.tmp 23) 131 199 rfl Tryz.underlying131 H2 HM.out.2 HM.out.1 (.pointer (some ⟨gb,0,none⟩)) rfl rfl rfl ?_; intro w1 H3a; rw [← HMK.out.1,← HMK.out.2] at H3a; have H3:=H3a.map_perm HR.out.2.2; have d1:=blk_cell H3.second 1 (v:=.slice O0 n c1) rfl; clear H2 H3a)
  | (go_at_call 148; ((with_reducible refine (zb _ H3).mono ?_); rintro e w2 ⟨⟨bb,rfl⟩,g2⟩; have H4:=(((H3.quiet g2).third).blk [Value.pointer (some ⟨gb,0,none⟩)].toArray 199).swap; have d2:=wkeep g2 d1; clear zb H3 d1 g2))
  | (go_at_call 154; ((with_reducible refine (zi _ H4).mono ?_); rintro e w3 ⟨B2,c3,rfl,H5⟩; have H6:=H5.third; have d3:=blk_cell H6.head 1 (v:=.slice O0 n c1) rfl; have f3:=blk_free H6.head 1; have H7:=H6.store 1 (.slice B2 (n + 1) c3); clear zi H4 H5 H6 d2)))
 simp [bodyPost,results,Tryz.results141,go_sem]
 refine ⟨M,.slice B2 (n + 1) c3,?_⟩
 obtain ⟨hAB,e,_⟩:=HR.out
 have H8:Own V (w3.setCell ⟨S,1,none⟩ (.slice B2 (n + 1) c3)) (blkS S (some M) (.slice B2 (n + 1) c3) items last :: rowT 199 1 (.slice B2 (n + 1) c3) (n + 1) (ptrsU (A ++ g :: B)) :: umapT M (entG (A ++ g :: B)) :: (grpsT gs ++ (g.things ++ R))):=H7
 rw [← hAB] at H8 ⊢
 refine H8.perm (((List.Perm.cons _ (List.Perm.cons _ (List.Perm.cons _ ?_)))))
 rw [e]
 refine (perm_mid _ _ _).trans ?_
 rw [← List.append_assoc]
 exact (grpsT_mid A B g).symm.append_right R
end Go.Proofs.YtbnpelciceblfaaGreat
