/- USetE USetS -/
import Derived.Test.YtbnpelciceblfaaGreatQ12
namespace Go.Proofs.YtbnpelciceblfaaGreat
set_option linter.unusedVariables false
open Go.ChangeShapes Go.WideShapes Go.ChangeAt Go.RowKit Go.Joins Go.Maps Go.ChangeMaps
set_option maxHeartbeats 64000000
def BetterN (p q:PlN):Prop:=q.x.prio < p.x.prio ∨ (p.x.prio = q.x.prio ∧ p.pl < q.pl)
instance (p q:PlN):Decidable (BetterN p q):=by unfold BetterN; infer_instance
def stepN (key:ByteArray) (o:Option PlN) (g:GrpN):Option PlN :=
 match findG g key,o with
 | none,o => o
 | some p,none => some p
 | some p,some b => if BetterN p b then some p else some b
def bestN (key:ByteArray) (gs:List GrpN):Option PlN:=gs.foldl (stepN key) none
theorem bestN_next (key:ByteArray) (gs:List GrpN) (j:Nat) (g:GrpN) (h:gs[j]? = some g):bestN key (gs.take (j + 1)) = stepN key (bestN key (gs.take j)) g:=by
 obtain ⟨hj,rfl⟩:=List.getElem?_eq_some_iff.1 h
 unfold bestN
 rw [List.take_succ_eq_append_getElem hj,List.foldl_append]
 rfl
theorem ubetter_c (p q:PlN) {b:Bool} (hb:b = true ↔ BetterN p q) (w:World):Calls Tryz.prog 157 #[aggP p,aggP q] w fun e w' => e = .returned (.bool b) ∧ Wider w w':=by
 obtain ⟨⟨k1,m1,p1,v1⟩,n1⟩:=p
 obtain ⟨⟨k2,m2,p2,v2⟩,n2⟩:=q
 show Calls Tryz.prog 157 #[.agg #[.string k1,.string m1,.int .i64 p1,.int .i64 v1,.int .i64 (n1:Int)],.agg #[.string k2,.string m2,.int .i64 p2,.int .i64 v2,.int .i64 (n2:Int)]] w _
 have H:=((Wider.refl w).alloc (.cells #[.string k1,.string m1,.int .i64 p1,.int .i64 v1,.int .i64 (n1:Int)] 207)).alloc (.cells #[.string k2,.string m2,.int .i64 p2,.int .i64 v2,.int .i64 (n2:Int)] 207)
 by_cases e:p1 = p2
 · subst e
   have eb:b = decide ((n1:Int) < (n2:Int)):=by
    cases b with
    | true =>
      rcases hb.1 rfl with h | ⟨_,h⟩
      · exact absurd h (Int.lt_irrefl _)
      · exact (decide_eq_true (by show (n1:Int) < n2; have:n1 < n2:=h; omega)).symm
    | false =>
      refine (decide_eq_false fun h => ?_).symm
      have:=hb.2 (.inr ⟨rfl,by show n1 < n2; omega⟩)
      cases this
   have z0:(p1 != p1) = false:=by simp
   subst eb
   clear hb
   go_enter Tryz.func157,Tryz.ntmps157
   go_wp2
   go_ret
   refine ⟨?_,H⟩
   first | rfl | simp
 · have eb:b = decide (p2 < p1):=by
    cases b with
    | true =>
      rcases hb.1 rfl with h | ⟨h,_⟩
      · exact (decide_eq_true h).symm
      · exact absurd h e
    | false =>
      refine (decide_eq_false fun h => ?_).symm
      have:=hb.2 (.inl h)
      cases this
   have z0:(p1 != p2) = true:=by simpa using e
   have z1:(p1 == p2) = false:=by simpa using e
   subst eb
   clear hb
   go_enter Tryz.func157,Tryz.ntmps157
   go_wp2
   go_ret
   exact ⟨rfl,H⟩
def StopN (key:ByteArray) (gs:List GrpN) (i:Nat):Prop:=∃ b g,bestN key (gs.take i) = some b ∧ gs[i]? = some g ∧ g.top < b.x.prio
def BestIs (key:ByteArray) (gs:List GrpN) (j:Nat) (is:Bool) (p:PlN):Prop:=(is = false ∧ bestN key (gs.take j) = none ∧ p = zeroP) ∨ (is = true ∧ bestN key (gs.take j) = some p)
theorem store5H {V w:World} {L:List Thing} {B:Nat} {x0 x1 x2 x3 x4:Value} {t:TypeId} (H:Own V w (blkT B #[x0,x1,x2,x3,x4] t :: L)) (a b c d e:Value) :
 Own V (((((w.setCell ⟨B,0,none⟩ a).setCell ⟨B,1,none⟩ b).setCell ⟨B,2,none⟩ c).setCell ⟨B,3,none⟩ d).setCell ⟨B,4,none⟩ e) (blkT B #[a,b,c,d,e] t :: L) :=
 ((((H.store 0 a).store 1 b).store 2 c).store 3 d).store 4 e
set_option maxRecDepth 20000 in
theorem usearch_c {w:World} {S:Nat} {gm:Option Nat} {ov:Value} {items last n:Nat} {gs:List GrpN} (h0:w.heap[S]? = some (.cells (setC gm ov items last) 134 (0,0))) (h1:w.ownsRow 0 199 1 ov n (ptrsU gs)) (hn:gs.length = n) (hl:n < 1000000)
 (hg:∀ g ∈ gs,GrpAt w g ∧ FewG g) {key:ByteArray} (hs:key.size < 1000000) {j0:Nat} (hj0:j0 ≤ n) (hno:∀ i,i < j0 → ¬ StopN key gs i) (hst:j0 = n ∨ StopN key gs j0) {o:Option PlN} (ho:bestN key (gs.take j0) = o) :
 Calls Tryz.prog 142 #[ptrU S,.string key] w fun e w' => e = .returned (.tuple #[aggP (o.getD zeroP),.bool o.isSome,.int .i64 (j0:Int)]) ∧ Wider w w':=by
 have c1:=blk_cell h0 1 (v:=ov) rfl
 obtain ⟨O0,cap,rfl⟩:=ownsRow_shape h1
 have HS:Hid (∀ j,j < n → ∃ B,O0 = some ⟨B,0,none⟩ ∧ ∀ i u,(ptrsU gs)[i]? = some u → w.cell? ⟨B,i,none⟩ = some u):=Lib.hid fun j hj => by
  obtain ⟨B,c2,e,hc⟩:=row_slice h1 (by omega)
  injection e with e1
  exact ⟨B,e1,hc⟩
 have HG:=Lib.hid hg
 have HN:=Lib.hid hn
 have HNO:=Lib.hid hno
 have HST:=Lib.hid hst
 have HO:=Lib.hid ho
 have HKS:=Lib.hid hs
 have H:Own w (w.alloc (.cells #[.string ⟨#[]⟩,.string ⟨#[]⟩,.int .i64 0,.int .i64 0,.int .i64 0] 207)) [blkT w.heap.size #[.string ⟨#[]⟩,.string ⟨#[]⟩,.int .i64 0,.int .i64 0,.int .i64 0] 207]:=(Own.nil (Wider.refl w)).blk _ _
 obtain ⟨B4,hB4⟩ : ∃ B4,w.heap.size = B4:=⟨_,rfl⟩
 rw [hB4] at H
 have d1:=kalloc (o:=.cells #[.string ⟨#[]⟩,.string ⟨#[]⟩,.int .i64 0,.int .i64 0,.int .i64 0] 207) c1
 clear h0 h1 hg hn hno hst ho hs c1
 show Calls Tryz.prog 142 #[.pointer (some ⟨S,0,none⟩),.string key] w _
 go_enter Tryz.func142,Tryz.ntmps142
 go_wp2
 try rw [hB4]
 clear d1 hB4
 go_loopw [5,6,19] (fun a b c wr => ∃ j:Nat,j ≤ j0 ∧ ∃ (is:Bool) (k0 m0:ByteArray) (p0 v0:Int) (n0:Nat),Hid (BestIs key gs j is ⟨⟨k0,m0,p0,v0⟩,n0⟩) ∧ a = .bool is ∧ b = .int .i64 (j:Int) ∧ c = .int .i64 (j:Int) ∧ Own w wr [blkT B4 #[.string k0,.string m0,.int .i64 p0,.int .i64 v0,.int .i64 (n0:Int)] 207]) (fun _ _ c _ => n - (intOf c).toNat)
 case atStart => exact ⟨0,by omega,false,_,_,_,_,0,Lib.hid (.inl ⟨rfl,rfl,rfl⟩),rfl,by simp,by simp,H⟩
 case round =>
  clear H
  obtain ⟨j,hj,is,k0,m0,p0,v0,n0,HB,rfl,rfl,rfl,H⟩:=hrel
  have q0:(0:Int) ≤ (j:Int):=by omega
  have jb:j ≤ 999999:=by omega
  have fin:j = j0 → Hid ((Ending.returned (.tuple #[.agg #[.string k0,.string m0,.int .i64 p0,.int .i64 v0,.int .i64 (n0:Int)],.bool is,.int .i64 (j:Int)])) = Ending.returned (.tuple #[aggP (o.getD zeroP),.bool o.isSome,.int .i64 (j0:Int)])):=fun e => Lib.hid (by
   subst e
   rcases HB.out with ⟨rfl,e1,e2⟩ | ⟨rfl,e1⟩
   · rw [HO.out] at e1; subst e1; show _ = Ending.returned (.tuple #[aggP zeroP,_,_]); rw [← e2]; rfl
   · rw [HO.out] at e1; subst e1; rfl)
  by_cases c:j < n
  · have q1:(j:Int) < (n:Int):=by omega
    obtain ⟨B,rfl,hc⟩:=HS.out j c
    obtain ⟨g,hgj⟩ : ∃ g,gs[j]? = some g:=⟨gs[j]'(by rw [HN.out]; exact c),List.getElem?_eq_getElem _⟩
    have x0:=wkeep H.wider (hc j (ptrU g.b) (by unfold ptrsU; rw [List.getElem?_map,hgj]; rfl))
    have pg:=HG.out g (List.mem_of_getElem? hgj)
    have HNX:=Lib.hid (bestN_next key gs j g hgj)
    have HGJ:=Lib.hid hgj
    obtain ⟨gb,hgb⟩ : ∃ gb,g.b = gb:=⟨_,rfl⟩
    rw [hgb] at x0
    unfold ptrU at x0
    obtain ⟨f,hf⟩ : ∃ f,findG g key = f:=⟨_,rfl⟩
    have HF:=Lib.hid hf
    have zf:=fun (W:World) (kw:Wider w W) => ufind_c (p:=f.getD zeroP) (is:=f.isSome) (pg.1.on kw) pg.2.good.keys HKS.out (by
     rw [hf]
     cases f with
     | none => exact .inr ⟨rfl,rfl,rfl⟩
     | some p => exact .inl ⟨rfl,rfl⟩)
    have zg:=fun (W:World) (kw:Wider w W) => ugreatest_c (pg.1.on kw) pg.2.pr0 pg.2.pr1
    obtain ⟨top,htop⟩ : ∃ top,g.top = top:=⟨_,rfl⟩
    have HTOP:=Lib.hid htop
    rw [hgb] at zf zg
    rw [htop] at zg
    unfold ptrU at zf zg
    clear hc hgj hgb hf pg htop
    cases is with
    | false =>
      have HB1:Hid (bestN key (gs.take j) = none ∧ (⟨⟨k0,m0,p0,v0⟩,n0⟩ : PlN) = zeroP):=Lib.hid (by
       rcases HB.out with ⟨_,h⟩ | ⟨h,_⟩
       · exact h
       · cases h)
      have nst:¬ StopN key gs j:=fun ⟨b,_,e,_⟩ => by rw [HB1.out.1] at e; cases e
      have jj:j < j0:=by
       rcases HST.out with e | e
       · omega
       · by_cases q:j = j0
         · subst q; exact absurd e nst
         · omega
      clear fin nst zg
      go_upto_region 6 with (fail)
      go_quiet (fail)
      have H:=H.quiet ((Wider.refl wr).drewN nq)
      cases f with
      | none =>
        have zf:∀ (W:World),Wider w W → Calls Tryz.prog 156 #[.pointer (some ⟨gb,0,none⟩),.string key] W fun e w' => e = .returned (.tuple #[.agg #[.string ⟨#[]⟩,.string ⟨#[]⟩,.int .i64 0,.int .i64 0,.int .i64 0],.bool false]) ∧ Wider W w':=zf
        have HB2:Hid (BestIs key gs (j + 1) false ⟨⟨k0,m0,p0,v0⟩,n0⟩):=Lib.hid (.inl ⟨rfl,by rw [HNX.out,HB1.out.1]; unfold stepN; rw [HF.out],HB1.out.2⟩)
        go_wp2_with (first
         | (go_at_call 156; ((with_reducible refine (zf _ H.wider).mono ?_); rintro e w1 ⟨rfl,g1⟩; have H1:=(H.quiet g1).blk #[.string ⟨#[]⟩,.string ⟨#[]⟩,.int .i64 0,.int .i64 0,.int .i64 0] 207; clear zf H g1)))
        go_roundw
        case rel => exact ⟨j + 1,by omega,false,k0,m0,p0,v0,n0,HB2,rfl,by go_num,by go_num,H1.drop⟩
        case measure => simp [intOf]; omega
      | some p =>
        obtain ⟨⟨k2,m2,p2,v2⟩,n2⟩:=p
        have zf:∀ (W:World),Wider w W → Calls Tryz.prog 156 #[.pointer (some ⟨gb,0,none⟩),.string key] W fun e w' => e = .returned (.tuple #[.agg #[.string k2,.string m2,.int .i64 p2,.int .i64 v2,.int .i64 (n2:Int)],.bool true]) ∧ Wider W w':=zf
        have HB2:Hid (BestIs key gs (j + 1) true ⟨⟨k2,m2,p2,v2⟩,n2⟩):=Lib.hid (.inr ⟨rfl,by rw [HNX.out,HB1.out.1]; unfold stepN; rw [HF.out]⟩)
        go_wp2_with (first
         | (go_at_call 156; ((with_reducible refine (zf _ H.wider).mono ?_); rintro e w1 ⟨rfl,g1⟩; have H1:=(H.quiet g1).blk #[.string k2,.string m2,.int .i64 p2,.int .i64 v2,.int .i64 (n2:Int)] 207; have H1:=H1.swap; have y0:=blk_cell H1.head 0 (v:=.string k0) rfl; have y1:=blk_cell H1.head 1 (v:=.string m0) rfl; have y2:=blk_cell H1.head 2 (v:=.int .i64 p0) rfl; have y3:=blk_cell H1.head 3 (v:=.int .i64 v0) rfl; have y4:=blk_cell H1.head 4 (v:=.int .i64 (n0:Int)) rfl; have f0:=blk_free H1.head 0; have f1:=blk_free H1.head 1; have f2:=blk_free H1.head 2; have f3:=blk_free H1.head 3; have f4:=blk_free H1.head 4; clear zf H g1)))
        go_roundw
        case rel => exact ⟨j + 1,by omega,true,k2,m2,p2,v2,n2,HB2,rfl,by go_num,by go_num,(store5H H1 _ _ _ _ _).swap.drop⟩
        case measure => simp [intOf]; omega
    | true =>
      have HB1:Hid (bestN key (gs.take j) = some ⟨⟨k0,m0,p0,v0⟩,n0⟩):=Lib.hid (by
       rcases HB.out with ⟨h,_⟩ | ⟨_,h⟩
       · cases h
       · exact h)
      by_cases st:top < p0
      · have hs2:StopN key gs j:=⟨_,g,HB1.out,HGJ.out,by rw [HTOP.out]; exact st⟩
        have jj:j = j0:=by
         by_cases q:j < j0
         · exact absurd hs2 (HNO.out j q)
         · omega
        have FIN:=fin jj
        clear fin hs2
        subst jj
        have y2:=fun x:After wr => blk_cell (H.quiet x.h).head 2 (v:=.int .i64 p0) rfl
        go_upto_region 6 with (fail)
        refine wp_region_after (by kernel_rfl) (by kernel_rfl) (Wider.refl _) ?_
        repeat (go_big_quiet_step (first | (go_at_call 155; exact quiet_after (zg _ (H.wider.trans (After.h _))))))
        refine wpQuiet_nil ?_
        rintro _ ⟨y,rfl⟩
        replace H:=H.quiet y.h
        clear y2
        have y0:=blk_cell H.head 0 (v:=.string k0) rfl
        have y1:=blk_cell H.head 1 (v:=.string m0) rfl
        have y2:=blk_cell H.head 2 (v:=.int .i64 p0) rfl
        have y3:=blk_cell H.head 3 (v:=.int .i64 v0) rfl
        have y4:=blk_cell H.head 4 (v:=.int .i64 (n0:Int)) rfl
        have f0:=blk_free H.head 0
        have f1:=blk_free H.head 1
        have f2:=blk_free H.head 2
        have f3:=blk_free H.head 3
        have f4:=blk_free H.head 4
        go_wp2
        simp [bodyPost,results,Tryz.results142,go_sem,y0,y1,y2,y3,y4]
        exact ⟨by simpa using FIN.out,store5 H _ _ _ _ _⟩
      · have nst:¬ StopN key gs j:=fun ⟨b,g1,e,e1,e2⟩ => by
         rw [HB1.out] at e
         rw [HGJ.out] at e1
         injection e with e
         injection e1 with e1
         subst e e1
         rw [HTOP.out] at e2
         exact st e2
        have jj:j < j0:=by
         rcases HST.out with e | e
         · omega
         · by_cases q:j = j0
           · subst q; exact absurd e nst
           · omega
        clear fin nst
        have y2:=fun x:After wr => blk_cell (H.quiet x.h).head 2 (v:=.int .i64 p0) rfl
        go_upto_region 6 with (fail)
        refine wp_region_after (by kernel_rfl) (by kernel_rfl) (Wider.refl _) ?_
        repeat (go_big_quiet_step (first | (go_at_call 155; exact quiet_after (zg _ (H.wider.trans (After.h _))))))
        refine wpQuiet_nil ?_
        rintro _ ⟨y,rfl⟩
        replace H:=H.quiet y.h
        clear y2
        clear zg
        cases f with
        | none =>
          have zf:∀ (W:World),Wider w W → Calls Tryz.prog 156 #[.pointer (some ⟨gb,0,none⟩),.string key] W fun e w' => e = .returned (.tuple #[.agg #[.string ⟨#[]⟩,.string ⟨#[]⟩,.int .i64 0,.int .i64 0,.int .i64 0],.bool false]) ∧ Wider W w':=zf
          have HB2:Hid (BestIs key gs (j + 1) true ⟨⟨k0,m0,p0,v0⟩,n0⟩):=Lib.hid (.inr ⟨rfl,by rw [HNX.out,HB1.out]; unfold stepN; rw [HF.out]⟩)
          go_wp2_with (first
           | (go_at_call 156; ((with_reducible refine (zf _ H.wider).mono ?_); rintro e w1 ⟨rfl,g1⟩; have H1:=(H.quiet g1).blk #[.string ⟨#[]⟩,.string ⟨#[]⟩,.int .i64 0,.int .i64 0,.int .i64 0] 207; clear zf H g1)))
          go_roundw
          case rel => exact ⟨j + 1,by omega,true,k0,m0,p0,v0,n0,HB2,rfl,by go_num,by go_num,H1.drop⟩
          case measure => simp [intOf]; omega
        | some p =>
          obtain ⟨⟨k2,m2,p2,v2⟩,n2⟩:=p
          have zf:∀ (W:World),Wider w W → Calls Tryz.prog 156 #[.pointer (some ⟨gb,0,none⟩),.string key] W fun e w' => e = .returned (.tuple #[.agg #[.string k2,.string m2,.int .i64 p2,.int .i64 v2,.int .i64 (n2:Int)],.bool true]) ∧ Wider W w':=zf
          by_cases bt:BetterN ⟨⟨k2,m2,p2,v2⟩,n2⟩ ⟨⟨k0,m0,p0,v0⟩,n0⟩
          · have zt:∀ W,Calls Tryz.prog 157 #[.agg #[.string k2,.string m2,.int .i64 p2,.int .i64 v2,.int .i64 (n2:Int)],.agg #[.string k0,.string m0,.int .i64 p0,.int .i64 v0,.int .i64 (n0:Int)]] W fun e w' => e = .returned (.bool true) ∧ Wider W w':=ubetter_c ⟨⟨k2,m2,p2,v2⟩,n2⟩ ⟨⟨k0,m0,p0,v0⟩,n0⟩ ⟨fun _ => bt,fun _ => rfl⟩
            have HB2:Hid (BestIs key gs (j + 1) true ⟨⟨k2,m2,p2,v2⟩,n2⟩):=Lib.hid (.inr ⟨rfl,by rw [HNX.out,HB1.out]; unfold stepN; rw [HF.out]; simp only [if_pos bt]⟩)
            go_wp2_with (first
             | (go_at_call 156; ((with_reducible refine (zf _ H.wider).mono ?_); rintro e w1 ⟨rfl,g1⟩; have H1:=(H.quiet g1).blk #[.string k2,.string m2,.int .i64 p2,.int .i64 v2,.int .i64 (n2:Int)] 207; have H1:=H1.swap; have y0:=blk_cell H1.head 0 (v:=.string k0) rfl; have y1:=blk_cell H1.head 1 (v:=.string m0) rfl; have y2:=blk_cell H1.head 2 (v:=.int .i64 p0) rfl; have y3:=blk_cell H1.head 3 (v:=.int .i64 v0) rfl; have y4:=blk_cell H1.head 4 (v:=.int .i64 (n0:Int)) rfl; have f0:=blk_free H1.head 0; have f1:=blk_free H1.head 1; have f2:=blk_free H1.head 2; have f3:=blk_free H1.head 3; have f4:=blk_free H1.head 4; clear zf H g1))
             | (go_at_call 157; ((with_reducible refine (zt _).mono ?_); rintro e w2 ⟨rfl,g2⟩; have H2:=H1.quiet g2; clear y0 y1 y2 y3 y4 f0 f1 f2 f3 f4; have y0:=blk_cell H2.head 0 (v:=.string k0) rfl; have y1:=blk_cell H2.head 1 (v:=.string m0) rfl; have y2:=blk_cell H2.head 2 (v:=.int .i64 p0) rfl; have y3:=blk_cell H2.head 3 (v:=.int .i64 v0) rfl; have y4:=blk_cell H2.head 4 (v:=.int .i64 (n0:Int)) rfl; have f0:=blk_free H2.head 0; have f1:=blk_free H2.head 1; have f2:=blk_free H2.head 2; have f3:=blk_free H2.head 3; have f4:=blk_free H2.head 4; have r0:=blk_cell H2.second 0 (v:=.string k2) rfl; have r1:=blk_cell H2.second 1 (v:=.string m2) rfl; have r2:=blk_cell H2.second 2 (v:=.int .i64 p2) rfl; have r3:=blk_cell H2.second 3 (v:=.int .i64 v2) rfl; have r4:=blk_cell H2.second 4 (v:=.int .i64 (n2:Int)) rfl; clear zt H1 g2)))
            go_roundw
            case rel => exact ⟨j + 1,by omega,true,k2,m2,p2,v2,n2,HB2,rfl,by go_num,by go_num,(store5H H2 _ _ _ _ _).swap.drop⟩
            case measure => simp [intOf]; omega
          · have zt:∀ W,Calls Tryz.prog 157 #[.agg #[.string k2,.string m2,.int .i64 p2,.int .i64 v2,.int .i64 (n2:Int)],.agg #[.string k0,.string m0,.int .i64 p0,.int .i64 v0,.int .i64 (n0:Int)]] W fun e w' => e = .returned (.bool false) ∧ Wider W w':=ubetter_c ⟨⟨k2,m2,p2,v2⟩,n2⟩ ⟨⟨k0,m0,p0,v0⟩,n0⟩ ⟨fun h => (by cases h),fun h => absurd h bt⟩
            have HB2:Hid (BestIs key gs (j + 1) true ⟨⟨k0,m0,p0,v0⟩,n0⟩):=Lib.hid (.inr ⟨rfl,by rw [HNX.out,HB1.out]; unfold stepN; rw [HF.out]; simp only [if_neg bt]⟩)
            go_wp2_with (first
             | (go_at_call 156; ((with_reducible refine (zf _ H.wider).mono ?_); rintro e w1 ⟨rfl,g1⟩; have H1:=(H.quiet g1).blk #[.string k2,.string m2,.int .i64 p2,.int .i64 v2,.int .i64 (n2:Int)] 207; have H1:=H1.swap; have y0:=blk_cell H1.head 0 (v:=.string k0) rfl; have y1:=blk_cell H1.head 1 (v:=.string m0) rfl; have y2:=blk_cell H1.head 2 (v:=.int .i64 p0) rfl; have y3:=blk_cell H1.head 3 (v:=.int .i64 v0) rfl; have y4:=blk_cell H1.head 4 (v:=.int .i64 (n0:Int)) rfl; have f0:=blk_free H1.head 0; have f1:=blk_free H1.head 1; have f2:=blk_free H1.head 2; have f3:=blk_free H1.head 3; have f4:=blk_free H1.head 4; clear zf H g1))
             | (go_at_call 157; ((with_reducible refine (zt _).mono ?_); rintro e w2 ⟨rfl,g2⟩; have H2:=H1.quiet g2; clear zt H1 g2)))
            go_roundw
            case rel => exact ⟨j + 1,by omega,true,k0,m0,p0,v0,n0,HB2,rfl,by go_num,by go_num,H2.swap.drop⟩
            case measure => simp [intOf]; omega
  · obtain rfl:j = n:=by omega
    have q1:¬ (j:Int) < (j:Int):=by omega
    have jj:j = j0:=by omega
    have FIN:=fin jj
    clear fin
    subst jj
    have y0:=blk_cell H.head 0 (v:=.string k0) rfl
    have y1:=blk_cell H.head 1 (v:=.string m0) rfl
    have y2:=blk_cell H.head 2 (v:=.int .i64 p0) rfl
    have y3:=blk_cell H.head 3 (v:=.int .i64 v0) rfl
    have y4:=blk_cell H.head 4 (v:=.int .i64 (n0:Int)) rfl
    have f0:=blk_free H.head 0
    have f1:=blk_free H.head 1
    have f2:=blk_free H.head 2
    have f3:=blk_free H.head 3
    have f4:=blk_free H.head 4
    go_wp2
    simp [bodyPost,results,Tryz.results142,go_sem,y0,y1,y2,y3,y4]
    exact ⟨by simpa using FIN.out,store5 H _ _ _ _ _⟩
end Go.Proofs.YtbnpelciceblfaaGreat
namespace Go.Proofs.YtbnpelciceblfaaGreat
set_option linter.unusedVariables false
open Go.ChangeShapes Go.WideShapes Go.ChangeAt Go.RowKit Go.Joins
set_option maxHeartbeats 64000000
def BestP (P:List PlN) (key:ByteArray):Option PlN → Prop
 | none => ∀ p ∈ P,¬ MatchN p.x key
 | some p => p ∈ P ∧ MatchN p.x key ∧ ∀ q ∈ P,MatchN q.x key → q.x.prio < p.x.prio ∨ (q.x.prio = p.x.prio ∧ p.pl ≤ q.pl)
theorem findG_best {g:GrpN} (h:GoodG g) (key:ByteArray):BestP g.flat key (findG g key):=by
 have key1:∀ q ∈ g.flat,MatchN q.x key → key.size = g.mask.size ∧ q ∈ getR g.rows (underB key g.mask):=fun q hq hm => by
  obtain ⟨h1,h2⟩:=h.mem_get hq
  obtain ⟨m1,m2⟩:=hm
  rw [h2] at m1 m2
  exact ⟨m1,by rw [m2]; exact h1⟩
 unfold findG
 by_cases e:key.size = g.mask.size
 · rw [if_pos e]
   have d:=h.desc_get (underB key g.mask)
   cases q:getR g.rows (underB key g.mask) with
   | nil =>
     intro p hp hm
     have:=(key1 p hp hm).2
     rw [q] at this; cases this
   | cons p ps =>
     rw [q] at d
     have hp:p ∈ getR g.rows (underB key g.mask):=by rw [q]; exact .head _
     obtain ⟨o1,o2⟩:=h.of_get hp
     refine ⟨mem_of_get h hp,⟨by rw [o2]; exact e,by rw [o2,o1]⟩,fun x hx hm => ?_⟩
     have hx2:=(key1 x hx hm).2
     rw [q] at hx2
     rcases List.mem_cons.1 hx2 with rfl | hx2
     · exact .inr ⟨rfl,Nat.le_refl _⟩
     · exact .inl ((List.pairwise_cons.1 d).1 x hx2)
 · rw [if_neg e]
   intro p hp hm
   exact e (key1 p hp hm).1
theorem step_best {P:List PlN} {key:ByteArray} {o:Option PlN} {g:GrpN} (hg:GoodG g) (h:BestP P key o):BestP (P ++ g.flat) key (stepN key o g):=by
 have f:=findG_best hg key
 unfold stepN
 cases q:findG g key with
 | none =>
   rw [q] at f
   cases o with
   | none =>
     intro p hp
     rcases List.mem_append.1 hp with hp | hp
     · exact h p hp
     · exact f p hp
   | some b =>
     refine ⟨List.mem_append_left _ h.1,h.2.1,fun x hx hm => ?_⟩
     rcases List.mem_append.1 hx with hx | hx
     · exact h.2.2 x hx hm
     · exact absurd hm (f x hx)
 | some p =>
   rw [q] at f
   cases o with
   | none =>
     refine ⟨List.mem_append_right _ f.1,f.2.1,fun x hx hm => ?_⟩
     rcases List.mem_append.1 hx with hx | hx
     · exact absurd hm (h x hx)
     · exact f.2.2 x hx hm
   | some b =>
     by_cases c:BetterN p b
     · simp only [if_pos c]
       refine ⟨List.mem_append_right _ f.1,f.2.1,fun x hx hm => ?_⟩
       rcases List.mem_append.1 hx with hx | hx
       · have:=h.2.2 x hx hm
         rcases c with c | ⟨c,c2⟩ <;> omega
       · exact f.2.2 x hx hm
     · simp only [if_neg c]
       refine ⟨List.mem_append_left _ h.1,h.2.1,fun x hx hm => ?_⟩
       rcases List.mem_append.1 hx with hx | hx
       · exact h.2.2 x hx hm
       · have:=f.2.2 x hx hm
         unfold BetterN at c
         omega
theorem bestN_best {key:ByteArray} : ∀ (gs:List GrpN),(∀ g ∈ gs,GoodG g) → BestP (flatS gs) key (bestN key gs):=by
 have gen:∀ (gs:List GrpN) (P:List PlN) (o:Option PlN),(∀ g ∈ gs,GoodG g) → BestP P key o → BestP (P ++ flatS gs) key (gs.foldl (stepN key) o):=by
  intro gs
  induction gs with
  | nil => intro P o _ h; rw [show flatS [] = [] from rfl,List.append_nil]; exact h
  | cons g gs ih =>
    intro P o hg h
    have:=ih (P ++ g.flat) (stepN key o g) (fun y hy => hg y (.tail _ hy)) (step_best (hg g (.head _)) h)
    rw [show flatS (g :: gs) = g.flat ++ flatS gs from rfl,← List.append_assoc]
    exact this
 intro gs hg
 exact gen gs [] none hg (by intro p hp; cases hp)
theorem stop_ex (S:Nat → Prop):∀ n,∃ j,j ≤ n ∧ (∀ i,i < j → ¬ S i) ∧ (j = n ∨ S j)
 | 0 => ⟨0,Nat.le_refl _,fun i hi => absurd hi (Nat.not_lt_zero _),.inl rfl⟩
 | n + 1 => by
   obtain ⟨j,h1,h2,h3⟩:=stop_ex S n
   by_cases c:S j
   · exact ⟨j,by omega,h2,.inr c⟩
   · rcases h3 with rfl | h3
     · exact ⟨j + 1,Nat.le_refl _,fun i hi => by
        by_cases e:i = j
        · subst e; exact c
        · exact h2 i (by omega),.inl rfl⟩
     · exact absurd h3 c
theorem top_ge {g:GrpN} (h:GoodG g) {p:PlN} (hp:p ∈ g.flat):p.x.prio ≤ g.top:=by
 have hm:p.x.prio ∈ g.pr:=h.prs.mem_iff.2 (List.mem_map.2 ⟨p,hp,rfl⟩)
 unfold GrpN.top
 cases q:g.pr.getLast? with
 | none => rw [List.getLast?_eq_none_iff.1 q] at hm; cases hm
 | some t =>
   obtain ⟨l,e⟩:=List.getLast?_eq_some_iff.1 q
   have a:=h.asc
   rw [e] at a hm
   show p.x.prio ≤ t
   rcases List.mem_append.1 hm with hm | hm
   · exact (List.pairwise_append.1 a).2.2 _ hm t (by simp)
   · have:p.x.prio = t:=by simpa using hm
     omega
theorem flat_ne {g:GrpN} (h:GoodG g) (hr:g.rows ≠ []):g.flat ≠ []:=by
 cases q:g.rows with
 | nil => exact absurd q hr
 | cons r l =>
   have ne:=h.ne r (by rw [q]; exact .head _)
   unfold GrpN.flat
   rw [q,flatR_cons]
   intro e
   exact ne (List.append_eq_nil_iff.1 e).1
theorem top_mem {g:GrpN} (h:GoodG g) (hr:g.rows ≠ []):∃ p ∈ g.flat,p.x.prio = g.top:=by
 have hm:g.top ∈ g.pr:=by
  unfold GrpN.top
  cases q:g.pr.getLast? with
  | none =>
    have e:=h.prs.length_eq
    rw [List.getLast?_eq_none_iff.1 q,List.length_map] at e
    exact absurd (List.eq_nil_of_length_eq_zero e.symm) (flat_ne h hr)
  | some t =>
    obtain ⟨l,e⟩:=List.getLast?_eq_some_iff.1 q
    rw [e]; simp
 obtain ⟨p,hp,e⟩:=List.mem_map.1 (h.prs.mem_iff.1 hm)
 exact ⟨p,hp,e⟩
theorem tops_fall {gs:List GrpN} (h:OrdS gs) {i j:Nat} {a b:GrpN} (hij:i ≤ j) (ha:gs[i]? = some a) (hb:gs[j]? = some b):b.top ≤ a.top:=by
 by_cases e:i = j
 · subst e
   rw [ha] at hb
   injection hb with hb
   rw [hb]; exact Int.le_refl _
 · obtain ⟨hi,rfl⟩:=List.getElem?_eq_some_iff.1 ha
   obtain ⟨hj,rfl⟩:=List.getElem?_eq_some_iff.1 hb
   have:=(List.pairwise_iff_getElem.1 h) i j hi hj (by omega)
   rw [ahead_lt] at this
   rcases this with h | ⟨h,_⟩ <;> omega
theorem search_spec {s:SetN} (h:GoodS s) (key:ByteArray):∃ j o,j ≤ s.gs.length ∧ (∀ i,i < j → ¬ StopN key s.gs i) ∧ (j = s.gs.length ∨ StopN key s.gs j) ∧ bestN key (s.gs.take j) = o ∧ BestP (flatS s.gs) key o ∧
 ∀ i g,s.gs[i]? = some g → (i < j ↔ ∀ q ∈ flatS s.gs,MatchN q.x key → q.x.prio ≤ g.top):=by
 obtain ⟨j,h1,h2,h3⟩:=stop_ex (StopN key s.gs) s.gs.length
 have bp:∀ k,BestP (flatS (s.gs.take k)) key (bestN key (s.gs.take k)):=fun k => bestN_best _ fun g hg => (h.good g (List.mem_of_mem_take hg)).1
 have parts:∀ k,flatS s.gs = flatS (s.gs.take k) ++ flatS (s.gs.drop k):=fun k => by rw [← flatS_append,List.take_append_drop]
 have late:∀ k q,q ∈ flatS (s.gs.drop k) → ∀ g,s.gs[k]? = some g → q.x.prio ≤ g.top:=fun k q hq g hg => by
  obtain ⟨y,hy,hqy⟩:=List.mem_flatMap.1 hq
  obtain ⟨m,hm⟩:=List.getElem?_of_mem hy
  rw [List.getElem?_drop] at hm
  have a:=top_ge (h.good y (List.mem_of_getElem? hm)).1 hqy
  have b:=tops_fall h.ord (by omega:k ≤ k + m) hg hm
  omega
 refine ⟨j,_,h1,h2,h3,rfl,?_,fun i g hg => ?_⟩
 · rcases h3 with rfl | ⟨b,g,e1,e2,e3⟩
   · have:=bp s.gs.length
     rw [List.take_length] at this ⊢
     exact this
   · have k:=bp j
     rw [e1] at k ⊢
     refine ⟨by rw [parts j]; exact List.mem_append_left _ k.1,k.2.1,fun q hq hm => ?_⟩
     rw [parts j] at hq
     rcases List.mem_append.1 hq with hq | hq
     · exact k.2.2 q hq hm
     · have:=late j q hq g e2
       exact .inl (by omega)
 · constructor
   · intro hij q hq hm
     by_cases c:q.x.prio ≤ g.top
     · exact c
     · exfalso
       refine h2 i hij ?_
       rw [parts i] at hq
       rcases List.mem_append.1 hq with hq | hq
       · have k:=bp i
         cases e:bestN key (s.gs.take i) with
         | none => rw [e] at k; exact absurd hm (k q hq)
         | some b =>
           rw [e] at k
           refine ⟨b,g,e,hg,?_⟩
           have:=k.2.2 q hq hm
           omega
       · exact absurd (late i q hq g hg) c
   · intro hall
     by_cases c:i < j
     · exact c
     · exfalso
       rcases h3 with e | ⟨b,g2,e1,e2,e3⟩
       · have:=(List.getElem?_eq_some_iff.1 hg).1
         omega
       · have k:=bp j
         rw [e1] at k
         have a:=hall b (by rw [parts j]; exact List.mem_append_left _ k.1) k.2.1
         have t:=tops_fall h.ord (by omega:j ≤ i) e2 hg
         omega
def FindE (L:List ItN) (key:ByteArray):Option ItN → Prop
 | none => ∀ x ∈ L,¬ MatchN x key
 | some x => MatchN x key ∧ ∃ A B,L = A ++ x :: B ∧ (∀ y ∈ A,MatchN y key → y.prio < x.prio) ∧ ∀ y ∈ B,MatchN y key → y.prio ≤ x.prio
def IsTop (L:List ItN) (m:ByteArray) (t:Int):Prop:=(∃ x ∈ L,x.mask = m ∧ x.prio = t) ∧ ∀ x ∈ L,x.mask = m → x.prio ≤ t
structure Heads (L:List ItN) (hs:List (ByteArray × Int)):Prop where
 one:hs.Pairwise fun a b => a.1 ≠ b.1
 iff_:∀ m t,(m,t) ∈ hs ↔ IsTop L m t
def ULooksE (L:List ItN) (key:ByteArray) (n:Nat):Prop:=∃ A B,Heads L (A ++ B) ∧ (∀ h ∈ A,∀ x ∈ L,MatchN x key → x.prio ≤ h.2) ∧ (∀ h ∈ B,∃ x ∈ L,MatchN x key ∧ h.2 < x.prio) ∧ n = A.length
theorem umem_all {s:SetN} {L:List ItN} (h:IsAll s L) {x:ItN} : x ∈ L ↔ ∃ p ∈ flatS s.gs,p.x = x:=by
 obtain ⟨Ps,p1,_,rfl⟩:=h
 rw [List.mem_map]
 constructor
 · rintro ⟨p,hp,e⟩; exact ⟨p,p1.mem_iff.1 hp,e⟩
 · rintro ⟨p,hp,e⟩; exact ⟨p,p1.mem_iff.2 hp,e⟩
theorem find_of {s:SetN} {L:List ItN} (h:IsAll s L) {key:ByteArray} {o:Option PlN} (b:BestP (flatS s.gs) key o):FindE L key (o.map (·.x)):=by
 cases o with
 | none =>
   intro x hx hm
   obtain ⟨p,hp,rfl⟩:=(umem_all h).1 hx
   exact b p hp hm
 | some p =>
   obtain ⟨Ps,p1,p2,rfl⟩:=h
   obtain ⟨b1,b2,b3⟩:=b
   obtain ⟨A,B,e⟩:=List.append_of_mem (p1.mem_iff.2 b1)
   subst e
   obtain ⟨q1,q2,q3⟩:=List.pairwise_append.1 p2
   refine ⟨b2,A.map (·.x),B.map (·.x),by simp,fun y hy hm => ?_,fun y hy hm => ?_⟩
   · obtain ⟨z,hz,rfl⟩:=List.mem_map.1 hy
     have:=b3 z (p1.mem_iff.1 (List.mem_append_left _ hz)) hm
     have:=q3 z hz p (.head _)
     show z.x.prio < p.x.prio
     omega
   · obtain ⟨z,hz,rfl⟩:=List.mem_map.1 hy
     have:=b3 z (p1.mem_iff.1 (List.mem_append_right _ (.tail _ hz))) hm
     show z.x.prio ≤ p.x.prio
     omega
def headsOf (gs:List GrpN):List (ByteArray × Int):=gs.map fun g => (g.mask,g.top)
theorem heads_of {s:SetN} {L:List ItN} (g:GoodS s) (h:IsAll s L):Heads L (headsOf s.gs) where
 one:=by
  unfold headsOf
  rw [List.pairwise_map]
  exact g.masks
 iff_ m t:=by
  unfold headsOf
  rw [List.mem_map]
  constructor
  · rintro ⟨y,hy,e⟩
    obtain ⟨e1,e2⟩ : y.mask = m ∧ y.top = t:=by simpa using e
    obtain ⟨gy,ry⟩:=g.good y hy
    obtain ⟨p,hp,hpt⟩:=top_mem gy ry
    refine ⟨⟨p.x,(umem_all h).2 ⟨p,List.mem_flatMap.2 ⟨y,hy,hp⟩,rfl⟩,by rw [(gy.mem_get hp).2,e1],by rw [hpt,e2]⟩,fun x hx hm => ?_⟩
    obtain ⟨q,hq,rfl⟩:=(umem_all h).1 hx
    obtain ⟨z,hz,hqz⟩:=List.mem_flatMap.1 hq
    have ez:=((g.good z hz).1.mem_get hqz).2
    have:z = y:=by
     by_cases c:z = y
     · exact c
     · exfalso
       have mm:=g.masks
       obtain ⟨i,hi⟩:=List.getElem?_of_mem hz
       obtain ⟨j,hj⟩:=List.getElem?_of_mem hy
       obtain ⟨hi1,hi2⟩:=List.getElem?_eq_some_iff.1 hi
       obtain ⟨hj1,hj2⟩:=List.getElem?_eq_some_iff.1 hj
       have pw:=List.pairwise_iff_getElem.1 mm
       rcases Nat.lt_trichotomy i j with l | l | l
       · have:=pw i j hi1 hj1 l
         rw [hi2,hj2] at this
         exact this (ez.symm.trans (hm.trans e1.symm))
       · subst l; rw [hi2] at hj2; exact c hj2
       · have:=pw j i hj1 hi1 l
         rw [hi2,hj2] at this
         exact this (e1.trans (hm.symm.trans ez))
    subst this
    rw [← e2]
    exact top_ge (g.good z hz).1 hqz
  · rintro ⟨⟨x,hx,hm,hp⟩,hall⟩
    obtain ⟨q,hq,rfl⟩:=(umem_all h).1 hx
    obtain ⟨z,hz,hqz⟩:=List.mem_flatMap.1 hq
    obtain ⟨gz,rz⟩:=g.good z hz
    have ez:=(gz.mem_get hqz).2
    refine ⟨z,hz,?_⟩
    obtain ⟨p,hp2,hpt⟩:=top_mem gz rz
    have a:=hall p.x ((umem_all h).2 ⟨p,List.mem_flatMap.2 ⟨z,hz,hp2⟩,rfl⟩) ((gz.mem_get hp2).2.trans (ez.symm.trans hm))
    have b:=top_ge gz hqz
    have:z.top = t:=by omega
    rw [this,← ez,hm]
theorem looks_of {s:SetN} {L:List ItN} (g:GoodS s) (h:IsAll s L) {key:ByteArray} {j:Nat} (hj:j ≤ s.gs.length) (hall:∀ i y,s.gs[i]? = some y → (i < j ↔ ∀ q ∈ flatS s.gs,MatchN q.x key → q.x.prio ≤ y.top)):ULooksE L key j:=by
 have hd:=heads_of g h
 have e:headsOf s.gs = headsOf (s.gs.take j) ++ headsOf (s.gs.drop j):=by unfold headsOf; rw [← List.map_append,List.take_append_drop]
 refine ⟨headsOf (s.gs.take j),headsOf (s.gs.drop j),by rw [← e]; exact hd,fun a ha x hx hm => ?_,fun a ha => ?_,by unfold headsOf; rw [List.length_map,List.length_take]; omega⟩
 · obtain ⟨y,hy,rfl⟩:=List.mem_map.1 ha
   obtain ⟨i,hi⟩:=List.getElem?_of_mem hy
   obtain ⟨q,hq,rfl⟩:=(umem_all h).1 hx
   rw [List.getElem?_take] at hi
   split at hi
   · rename_i c
     exact (hall i y hi).1 c q hq hm
   · cases hi
 · obtain ⟨y,hy,rfl⟩:=List.mem_map.1 ha
   obtain ⟨i,hi⟩:=List.getElem?_of_mem hy
   rw [List.getElem?_drop] at hi
   have n:¬ ∀ q ∈ flatS s.gs,MatchN q.x key → q.x.prio ≤ y.top:=fun c => by
    have:=(hall (j + i) y hi).2 c
    omega
   by_cases c:∃ q ∈ flatS s.gs,MatchN q.x key ∧ y.top < q.x.prio
   · obtain ⟨q,hq,hm,l⟩:=c
     exact ⟨q.x,(umem_all h).2 ⟨q,hq,rfl⟩,hm,l⟩
   · refine absurd (fun q hq hm => ?_) n
     by_cases d:q.x.prio ≤ y.top
     · exact d
     · exact absurd ⟨q,hq,hm,by omega⟩ c
theorem len_of {s:SetN} {L:List ItN} (g:GoodS s) (h:IsAll s L):s.items = L.length:=by
 obtain ⟨Ps,p1,_,rfl⟩:=h
 rw [g.items,List.length_map,p1.length_eq]
end Go.Proofs.YtbnpelciceblfaaGreat
