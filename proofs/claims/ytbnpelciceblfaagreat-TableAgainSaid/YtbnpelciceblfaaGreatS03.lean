/- YEntries YRow -/
import Derived.Test.YtbnpelciceblfaaGreatS02
import Derived.Test.YtbnpelciceblfaaGreatQ35
namespace Go.Proofs.YtbnpelciceblfaaGreat
set_option linter.unusedVariables false
open Go.ChangeShapes Go.WideShapes Go.ChangeAt Go.RowKit Go.Joins
set_option maxHeartbeats 64000000
theorem Own.rowStoreY {V w:World} {L:List Thing} {E:TypeId} {k B n c:Nat} {xs:List Value} (H:Own V w (rowT E k (.slice (some ⟨B,0,none⟩) n c) n xs :: L)) {j:Nat} {u:Value} (hj:j < xs.length) (hu:u.oneCell' = true) :
 Own V (w.setCell ⟨B,j,none⟩ u) (rowT E k (.slice (some ⟨B,0,none⟩) n c) n (xs.set j u) :: L):=by
 have h2:=ownsRow_store H.head hj hu
 refine H.turn (s:=rowT E k (.slice (some ⟨B,0,none⟩) n c) n (xs.set j u)) ?_ h2 (rowT_stable _ _ _ _ _) fun i hi => ⟨.inl hi,(h2.lt i (by simpa using hi)).2⟩
 exact setCell_but w ⟨B,j,none⟩ u
theorem row_freeY {w:World} {E:TypeId} {k n c B:Nat} {xs:List Value} (h:w.ownsRow 0 E k (.slice (some ⟨B,0,none⟩) n c) n xs) (j:Nat):w.frozen? ⟨B,j,none⟩ = false:=by
 rcases h.2 with ⟨q,_⟩ | ⟨g,cap,cur,q,hb,hg,r⟩
 · cases q
 · cases q
   unfold World.frozen?; simp [hg]
theorem ents_focus {v:Value} {n i:Nat} {E:List EntM} {e:EntM} (he:E[i]? = some e):(entsT v n E).Perm (argT e :: rowE v n E :: (E.eraseIdx i).map argT):=by
 obtain ⟨hi,rfl⟩:=List.getElem?_eq_some_iff.1 he
 have p:(E.map argT).Perm (argT E[i] :: (E.eraseIdx i).map argT):=by
  have e:E = E.take i ++ E[i] :: E.drop (i + 1):=by rw [List.getElem_cons_drop,List.take_append_drop]
  have q:E.Perm (E[i] :: E.eraseIdx i):=by
   rw [List.eraseIdx_eq_take_drop_succ]
   conv => lhs; rw [e]
   exact List.perm_middle
  exact q.map argT
 exact (List.Perm.cons _ p).trans (List.Perm.swap _ _ _)
theorem cellsE_argset:∀ (E:List EntM) (i:Nat) (e:EntM) (l:List Int),E[i]? = some e → cellsE (E.set i ⟨{ e.x with args:=l },e.av⟩) = cellsE E
 | [],i,e,l,h => by simp at h
 | y :: E,0,e,l,h => by
   obtain rfl:y = e:=by simpa using h
   rfl
 | y :: E,i + 1,e,l,h => by
   rw [List.set_cons_succ,cellsE_cons,cellsE_cons,cellsE_argset E i e l (by simpa using h)]
theorem ents_over {V w:World} {R:List Thing} {v:Value} {n i k g m cap:Nat} {E:List EntM} {e:EntM} (H:Own V w (entsT v n E ++ R)) (he:E[i]? = some e) (hm:e.x.args.length = m) (hav:e.av = .slice (some ⟨g,0,none⟩) m cap) (hk:k < m) (u:Int) :
 Own V (w.setCell ⟨g,k,none⟩ (.int .u64 u)) (entsT v n (E.set i ⟨{ e.x with args:=e.x.args.set k u },e.av⟩) ++ R) ∧ w.frozen? ⟨g,k,none⟩ = false ∧ ∃ z,w.cell? ⟨g,k,none⟩ = some z:=by
 have H1:=H.perm ((ents_focus (v:=v) (n:=n) he).append_right R)
 have H1:Own V w (argT e :: (rowE v n E :: (E.eraseIdx i).map argT ++ R)):=H1
 have ea:argT e = rowT 24 1 (.slice (some ⟨g,0,none⟩) m cap) m (u64s e.x.args):=by
  show rowT 24 1 e.av e.x.args.length (u64s e.x.args) = _
  rw [hav,hm]
 rw [ea] at H1
 have fr:=row_freeY H1.head k
 obtain ⟨Bq,cq,eq,hc⟩:=rowY_slice H1.head (by omega)
 cases eq
 have hk2:k < (u64s e.x.args).length:=by rw [u64s_length,hm]; exact hk
 refine ⟨?_,fr,_,hc k _ (List.getElem?_eq_getElem hk2)⟩
 have H2:=H1.rowStoreY (j:=k) (u:=.int .u64 u) hk2 rfl
 have hi:=(List.getElem?_eq_some_iff.1 he).1
 have he2:(E.set i ⟨{ e.x with args:=e.x.args.set k u },e.av⟩)[i]? = some ⟨{ e.x with args:=e.x.args.set k u },e.av⟩:=by rw [List.getElem?_set_self hi]
 refine Own.perm ?_ ((ents_focus (v:=v) (n:=n) he2).append_right R).symm
 rw [List.eraseIdx_set_eq]
 show Own V _ (argT ⟨{ e.x with args:=e.x.args.set k u },e.av⟩ :: (rowE v n (E.set i ⟨{ e.x with args:=e.x.args.set k u },e.av⟩) :: (E.eraseIdx i).map argT ++ R))
 have ea2:argT ⟨{ e.x with args:=e.x.args.set k u },e.av⟩ = rowT 24 1 (.slice (some ⟨g,0,none⟩) m cap) m ((u64s e.x.args).set k (.int .u64 u)):=by
  show rowT 24 1 e.av (e.x.args.set k u).length (u64s (e.x.args.set k u)) = _
  rw [hav,List.length_set,hm]
  unfold u64s
  rw [List.map_set]
 have er:rowE v n (E.set i ⟨{ e.x with args:=e.x.args.set k u },e.av⟩) = rowE v n E:=by
  show rowT 26 11 v n (cellsE (E.set i ⟨{ e.x with args:=e.x.args.set k u },e.av⟩)) = _
  rw [cellsE_argset E i e _ he]
 rw [ea2,er]
 exact H2
set_option maxRecDepth 20000 in
theorem yentries_c {V w:World} {R:List Thing} {B Bb:Option Addr} {n c cb:Nat} {E:List EntM} {L:List EntV} (H:Own V w (entsT (.slice B n c) n E ++ R)) (hE:E.map (·.x) = L) (hn:L.length = n) (hl:n < 100000) (hb:∀ W,Own V W R → EntsAt W Bb L) (hs:∀ x ∈ L,x.args.length < 100000) :
 Calls Tryz.prog 27 #[.slice B n c,.slice Bb n cb] w fun e w' => e = .returned (.bool true) ∧ Own V w' R:=by
 have hEn:E.length = n:=by rw [← hn,← hE,List.length_map]
 have HN:=Lib.hid hn
 have HE:=Lib.hid hE
 have HEN:=Lib.hid hEn
 have HB:=Lib.hid hb
 have HS:=Lib.hid hs
 have e0:((n:Int) == (n:Int)) = true:=by simp
 have HES:=Lib.hid (show E.length = n ∧ ∀ x ∈ E,x.x.args.length < 100000 from ⟨hEn,fun x hx => hs x.x (by rw [← hE]; exact List.mem_map.2 ⟨x,hx,rfl⟩)⟩)
 clear hE hn hb hs hEn
 go_enter Tryz.func27,Tryz.ntmps27
 go_wp2
 go_loopw [5,6] (fun a b wr => ∃ j:Nat,j ≤ n ∧ a = .bool true ∧ b = .int .i64 (j:Int) ∧ Own V wr (entsT (.slice B n c) n E ++ R)) (fun _ b _ => n - (intOf b).toNat)
 case atStart => exact ⟨0,Nat.zero_le _,rfl,rfl,H⟩
 case round =>
  clear H
  obtain ⟨j,hj,rfl,rfl,H⟩:=hrel
  have j0:(0:Int) ≤ (j:Int):=by omega
  by_cases d1:j < n
  · have j1:(j:Int) < (n:Int):=by omega
    obtain ⟨x,hx⟩ : ∃ x,L[j]? = some x:=⟨L[j]'(by rw [HN.out]; exact d1),List.getElem?_eq_getElem _⟩
    have hsx:=HS.out x (List.mem_of_getElem? hx)
    have EA:=ents_at H (fun t ht => List.mem_append_left _ ht) HEN.out
    rw [HE.out] at EA
    obtain ⟨B1,rfl,ka⟩:=EA j x hx
    obtain ⟨B2,rfl,kb⟩:=HB.out wr (own_rest H) j x hx
    obtain ⟨Aa,na,ca,hna,ra,a0,a1,a2,a3,a4,a5,a6,a7,a8,a9,a10⟩:=ka.cells
    obtain ⟨Ab,nb,cb2,hnb,rb,b0,b1,b2,b3,b4,b5,b6,b7,b8,b9,b10⟩:=kb.cells
    have zs:=fun (z:After wr) => ysame_c x x (cap:=ca) (cap2:=cb2) z.w (ra.on z.h) (rb.on z.h) (by omega) (decide_eq_true rfl)
    obtain ⟨xtb,xkey,xoth,xln,xpr,xbk,xargs,xidle,xhard,xck,xtl⟩:=x
    have q:=fun (z:After wr) => And.intro (wkeep z.h a0) (And.intro (wkeep z.h a1) (And.intro (wkeep z.h a2) (And.intro (wkeep z.h a3) (And.intro (wkeep z.h a4) (And.intro (wkeep z.h a5) (And.intro (wkeep z.h a6) (And.intro (wkeep z.h a7) (And.intro (wkeep z.h a8) (And.intro (wkeep z.h a9) (wkeep z.h a10))))))))))
    have r:=fun (z:After wr) => And.intro (wkeep z.h b0) (And.intro (wkeep z.h b1) (And.intro (wkeep z.h b2) (And.intro (wkeep z.h b3) (And.intro (wkeep z.h b4) (And.intro (wkeep z.h b5) (And.intro (wkeep z.h b6) (And.intro (wkeep z.h b7) (And.intro (wkeep z.h b8) (And.intro (wkeep z.h b9) (wkeep z.h b10))))))))))
    have q0:=fun z => (q z).1
    have q1:=fun z => (q z).2.1
    have q2:=fun z => (q z).2.2.1
    have q3:=fun z => (q z).2.2.2.1
    have q4:=fun z => (q z).2.2.2.2.1
    have q5:=fun z => (q z).2.2.2.2.2.1
    have q6:=fun z => (q z).2.2.2.2.2.2.1
    have q7:=fun z => (q z).2.2.2.2.2.2.2.1
    have q8:=fun z => (q z).2.2.2.2.2.2.2.2.1
    have q9:=fun z => (q z).2.2.2.2.2.2.2.2.2.1
    have q10:=fun z => (q z).2.2.2.2.2.2.2.2.2.2
    have r0:=fun z => (r z).1
    have r1:=fun z => (r z).2.1
    have r2:=fun z => (r z).2.2.1
    have r3:=fun z => (r z).2.2.2.1
    have r4:=fun z => (r z).2.2.2.2.1
    have r5:=fun z => (r z).2.2.2.2.2.1
    have r6:=fun z => (r z).2.2.2.2.2.2.1
    have r7:=fun z => (r z).2.2.2.2.2.2.2.1
    have r8:=fun z => (r z).2.2.2.2.2.2.2.2.1
    have r9:=fun z => (r z).2.2.2.2.2.2.2.2.2.1
    have r10:=fun z => (r z).2.2.2.2.2.2.2.2.2.2
    clear q r a0 a1 a2 a3 a4 a5 a6 a7 a8 a9 a10 b0 b1 b2 b3 b4 b5 b6 b7 b8 b9 b10 EA ka kb hx ra rb
    go_upto_region 5 with (fail)
    refine wp_region_after (by kernel_rfl) (by kernel_rfl) (Wider.refl wr) ?_
    repeat (go_big_quiet_step (first | (go_at_call 25; with_reducible exact quiet_after (zs _))))
    refine wpQuiet_nil ?_
    rintro _ ⟨z,rfl⟩
    have H2:=H.quiet z.h
    clear H zs q0 q1 q2 q3 q4 q5 q6 q7 q8 q9 q10 r0 r1 r2 r3 r4 r5 r6 r7 r8 r9 r10
    go_wp2
    go_roundw
    case rel => exact ⟨j + 1,by omega,rfl,by go_num,H2⟩
    case measure => simp [intOf]; omega
  · obtain rfl:j = n:=by omega
    have j1:¬ (j:Int) < (j:Int):=by omega
    clear HE HS HB
    go_wp2
    go_loopw [7] (fun a wr => ∃ (i:Nat) (F:List EntM),i ≤ j ∧ a = .int .i64 (i:Int) ∧ Hid (F.length = j ∧ ∀ x ∈ F,x.x.args.length < 100000) ∧ Own V wr (entsT (.slice B j c) j F ++ R)) (fun a _ => j - (intOf a).toNat)
    case atStart => exact ⟨0,E,Nat.zero_le _,rfl,HES,H⟩
    case round =>
     clear H
     obtain ⟨i,F,hi0,rfl,HF,H⟩:=hrel
     have i0:(0:Int) ≤ (i:Int):=by omega
     by_cases d:i < j
     · have i1:(i:Int) < (j:Int):=by omega
       obtain ⟨e,he⟩ : ∃ e,F[i]? = some e:=⟨F[i]'(by rw [HF.out.1]; exact d),List.getElem?_eq_getElem _⟩
       have hel:=HF.out.2 e (List.mem_of_getElem? he)
       obtain ⟨Aa,ca,ea⟩ : ∃ A c,e.av = .slice A e.x.args.length c:=ownsRow_shape (H.holds (argT e) (List.mem_append_left _ (.tail _ (List.mem_map.2 ⟨e,List.mem_of_getElem? he,rfl⟩))))
       obtain ⟨na,hna⟩ : ∃ na,e.x.args.length = na:=⟨_,rfl⟩
       rw [hna] at ea hel
       obtain ⟨Bk,cc,eB,_⟩:=rowY_slice (H.holds _ (.head _)) (by omega)
       cases eB
       have HX:=Lib.hid (show ∃ e',F[i]? = some e' ∧ e'.av = .slice Aa na ca ∧ e'.x.args.length = na from ⟨e,he,ea,hna⟩)
       clear he ea hna
       go_wp2
       go_loopw [8] (fun b wr => ∃ (k:Nat) (G:List EntM),k ≤ na ∧ b = .int .i64 (k:Int) ∧ Hid (G.length = j ∧ ∀ x ∈ G,x.x.args.length < 100000) ∧ Hid (∃ e',G[i]? = some e' ∧ e'.av = .slice Aa na ca ∧ e'.x.args.length = na) ∧ Own V wr (entsT (.slice (some ⟨Bk,0,none⟩) j c) j G ++ R)) (fun b _ => na - (intOf b).toNat)
       case atStart => exact ⟨0,F,Nat.zero_le _,rfl,HF,HX,H⟩
       case round =>
        clear H HF HX
        obtain ⟨k,G,hk0,rfl,HG,HX,H⟩:=hrel
        have k0:(0:Int) ≤ (k:Int):=by omega
        obtain ⟨e',he,ea,hna⟩:=HX.out
        obtain ⟨B2,c2,eB2,hc⟩:=rowY_slice (H.holds _ (.head _)) (by omega)
        cases eB2
        have a6:=hc (i * 11 + 6) (.slice Aa na ca) (by rw [cellsE_at G i e' he 6 (by decide)]; show some e'.av = _; rw [ea])
        by_cases dk:k < na
        · have k1:(k:Int) < (na:Int):=by omega
          obtain ⟨g,rfl⟩ : ∃ g,Aa = some ⟨g,0,none⟩:=by
           have q:=H.holds (argT e') (List.mem_append_left _ (.tail _ (List.mem_map.2 ⟨e',List.mem_of_getElem? he,rfl⟩)))
           obtain ⟨B3,c3,eq,_⟩:=rowY_slice q (by omega)
           rw [ea] at eq
           injection eq with eq1
           exact ⟨B3,eq1⟩
          obtain ⟨H2,fr,z,hz⟩:=ents_over (k:=k) H he hna ea dk 99
          have HY:=Lib.hid (show (G.set i ⟨{ e'.x with args:=e'.x.args.set k 99 },e'.av⟩).length = j ∧ ∀ x ∈ G.set i ⟨{ e'.x with args:=e'.x.args.set k 99 },e'.av⟩,x.x.args.length < 100000 from ⟨by rw [List.length_set]; exact HG.out.1,fun x hx => by
           rcases List.mem_or_eq_of_mem_set hx with hx | rfl
           · exact HG.out.2 x hx
           · show (e'.x.args.set k 99).length < _
             rw [List.length_set,hna]; exact hel⟩)
          have HZ:=Lib.hid (show ∃ e'',(G.set i ⟨{ e'.x with args:=e'.x.args.set k 99 },e'.av⟩)[i]? = some e'' ∧ e''.av = .slice (some ⟨g,0,none⟩) na ca ∧ e''.x.args.length = na from ⟨_,List.getElem?_set_self (List.getElem?_eq_some_iff.1 he).1,ea,by show (e'.x.args.set k 99).length = _; rw [List.length_set,hna]⟩)
          have H3:=Lib.hid H2
          clear H H2 he ea hna hc HG HX
          go_wp2
          go_roundw
          case rel => exact ⟨k + 1,_,by omega,by go_num,HY,HZ,H3.out⟩
          case measure => simp [intOf]; omega
        · obtain rfl:k = na:=by omega
          have k1:¬ (k:Int) < (k:Int):=by omega
          clear he ea hna hc
          go_wp2
          go_roundw
          case rel => exact ⟨i + 1,G,by omega,by go_num,HG,H⟩
          case measure => simp [intOf]; omega
     · obtain rfl:i = j:=by omega
       have i1:¬ (i:Int) < (i:Int):=by omega
       go_wp2
       go_ret
       exact ⟨rfl,own_rest H⟩
theorem infoEnt:(Tryz.prog.info? 26).map (fun i => (i.zero,i.size,i.bytes)) = some (some (.agg (entC ⟨0,⟨#[]⟩,⟨#[]⟩,0,0,0,[],0,0,0,false⟩ (.slice none 0 0))),11,120):=by kernel_rfl
theorem ents_at2 {V w:World} {L:List Thing} {B:Option Addr} {n c:Nat} {E:List EntM} (H:Own V w L) (hr:rowE (.slice B n c) n E ∈ L) (ha:∀ e ∈ E,ArgsAt w e.av e.x.args) (hn:E.length = n):EntsAt w B (E.map (·.x)):=fun j x hj => by
 rw [List.getElem?_map] at hj
 cases q:E[j]? with
 | none => rw [q] at hj; cases hj
 | some e =>
   rw [q] at hj
   obtain rfl:e.x = x:=by simpa using hj
   have hjl:=(List.getElem?_eq_some_iff.1 q).1
   obtain ⟨Bk,cc,eB,hc⟩:=rowY_slice (H.holds _ hr) (by omega)
   injection eB with e1
   refine ⟨Bk,e1,e.av,ha e (List.mem_of_getElem? q),fun i hi => ?_⟩
   have k:=cellsE_at E j e q i hi
   obtain ⟨v,hv⟩ : ∃ v,(entC e.x e.av)[i]? = some v:=⟨(entC e.x e.av)[i]'(show i < 11 from hi),Array.getElem?_eq_getElem _⟩
   rw [hv] at k ⊢
   exact hc _ _ k
theorem cellsE_one (E:List EntM) (h:∀ e ∈ E,e.av.oneCell' = true):∀ u ∈ cellsE E,u.oneCell' = true:=fun u hu => by
 unfold cellsE at hu
 obtain ⟨e,he,hu⟩:=List.mem_flatMap.1 hu
 have:=h e he
 simp at hu
 rcases hu with rfl | rfl | rfl | rfl | rfl | rfl | rfl | rfl | rfl | rfl | rfl <;> first | rfl | exact this
theorem rowY_cap {w:World} {E:TypeId} {k n c:Nat} {A:Option Addr} {xs:List Value} (h:w.ownsRow 0 E k (.slice A n c) n xs) (hn:0 < n):n ≤ c ∧ c ≤ maxLen:=by
 rcases h.2 with ⟨q,q2⟩ | ⟨g,cap,cur,q,hb,hg,h1,h2,h3,h4⟩
 · injection q with q1 q2 q3; omega
 · injection q with q1 q2 q3
   subst q3
   exact ⟨h1,h2⟩
theorem ents_get {V w:World} {L:List Thing} {B:Option Addr} {n c:Nat} {E:List EntM} (H:Own V w L) (hm:∀ t ∈ entsT (.slice B n c) n E,t ∈ L) (hn:E.length = n) {j:Nat} {e:EntM} (q:E[j]? = some e):∃ Bk A m cap,B = some ⟨Bk,0,none⟩ ∧ e.av = .slice A m cap ∧ e.x.args.length = m ∧ (∀ i v,(cellsE E)[i]? = some v → w.cell? ⟨Bk,i,none⟩ = some v) ∧ w.cell? ⟨Bk,j * 11,none⟩ = some (.int .i64 e.x.tb) ∧ w.cell? ⟨Bk,j * 11 + 1,none⟩ = some (.string e.x.key) ∧ w.cell? ⟨Bk,j * 11 + 2,none⟩ = some (.string e.x.oth) ∧ w.cell? ⟨Bk,j * 11 + 3,none⟩ = some (.int .i64 e.x.ln) ∧ w.cell? ⟨Bk,j * 11 + 4,none⟩ = some (.int .i64 e.x.pr) ∧ w.cell? ⟨Bk,j * 11 + 5,none⟩ = some (.int .i64 e.x.bk) ∧ w.cell? ⟨Bk,j * 11 + 6,none⟩ = some (.slice A m cap) ∧ w.cell? ⟨Bk,j * 11 + 7,none⟩ = some (.int .i64 e.x.idle) ∧ w.cell? ⟨Bk,j * 11 + 8,none⟩ = some (.int .i64 e.x.hard) ∧ w.cell? ⟨Bk,j * 11 + 9,none⟩ = some (.int .u64 e.x.ck) ∧ w.cell? ⟨Bk,j * 11 + 10,none⟩ = some (.bool e.x.tl):=by
 have hjl:=(List.getElem?_eq_some_iff.1 q).1
 obtain ⟨Bk,cc,eB,hc⟩:=rowY_slice (H.holds _ (hm _ (.head _))) (by omega)
 injection eB with e1
 have ar:ArgsAt w e.av e.x.args:=ArgsAt.row (H.holds (argT e) (hm _ (.tail _ (List.mem_map.2 ⟨e,List.mem_of_getElem? q,rfl⟩)))) rfl
 obtain ⟨A,m,cap,ea,hnn,_⟩:=id ar
 have f:=fun i (hi:i < 11) v (hv:(entC e.x e.av)[i]? = some v) => hc (j * 11 + i) v ((cellsE_at E j e q i hi).trans hv)
 rw [ea] at f
 exact ⟨Bk,A,m,cap,e1,ea,hnn,fun i v h => hc i v h,f 0 (by decide) _ rfl,f 1 (by decide) _ rfl,f 2 (by decide) _ rfl,f 3 (by decide) _ rfl,f 4 (by decide) _ rfl,f 5 (by decide) _ rfl,f 6 (by decide) _ rfl,f 7 (by decide) _ rfl,f 8 (by decide) _ rfl,f 9 (by decide) _ rfl,f 10 (by decide) _ rfl⟩
theorem args_held {V w:World} {L:List Thing} {e:EntM} (H:Own V w L) (hm:argT e ∈ L):ArgsAt w e.av e.x.args:=ArgsAt.row (H.holds _ hm) rfl
theorem cellsE_head {E:List EntM} {k i:Nat} {u:Value} (h:(cellsE (E.take k))[i]? = some u):(cellsE E)[i]? = some u:=by
 have e:cellsE E = cellsE (E.take k) ++ cellsE (E.drop k):=by rw [← cellsE_append,List.take_append_drop]
 rw [e,List.getElem?_append_left (List.getElem?_eq_some_iff.1 h).1]; exact h
theorem cellsE_tail {E:List EntM} {k i:Nat} {u:Value} (hk:k ≤ E.length) (h:(cellsE (E.drop k))[i]? = some u):(cellsE E)[k * 11 + i]? = some u:=by
 have e:cellsE E = cellsE (E.take k) ++ cellsE (E.drop k):=by rw [← cellsE_append,List.take_append_drop]
 have l:(cellsE (E.take k)).length = k * 11:=by rw [cellsE_length,List.length_take,Nat.min_eq_left hk]
 rw [e,List.getElem?_append_right (by omega),l,Nat.add_sub_cancel_left]; exact h
theorem Own.overY {V w w':World} {L M:List Thing} (H:Own V w L) (K:Own w w' M):Own V w' (M ++ L) where
 holds r m:=by
  rcases List.mem_append.1 m with m | m
  · exact K.holds r m
  · exact (H.quiet K.wider).holds r m
 new r m i hi:=by
  rcases List.mem_append.1 m with m | m
  · exact ⟨Nat.le_trans H.wider.2 (K.new r m i hi).1,(K.new r m i hi).2⟩
  · exact (H.quiet K.wider).new r m i hi
 apart:=List.pairwise_append.2 ⟨K.apart,H.apart,fun a ha b hb i hi hj => by
  have:=(K.new a ha i hi).1
  have:=(H.new b hb i hj).2
  omega⟩
 stable r m:=by
  rcases List.mem_append.1 m with m | m
  · exact K.stable r m
  · exact H.stable r m
 wider:=H.wider.trans K.wider
theorem but_again {L:List HeldM} {cap:Nat} (g:GoodL L cap) {k:Nat} {x y:EntV} {p f:Int} (hx:L[k]? = some ⟨x,p,f⟩) (o:OneE x y):hasE L y ∧ butE L y = L.take k ++ L.drop (k + 1):=by
 refine ⟨⟨_,List.mem_of_getElem? hx,o⟩,?_⟩
 rw [butE_at g hx o,List.eraseIdx_eq_take_drop_succ]
theorem cellsE_snoc (E:List EntM) (x:EntV) (av:Value):cellsE E ++ (entC x av).toList = cellsE (E ++ [⟨x,av⟩]):=by
 rw [cellsE_append]
 show _ = _ ++ ((entC x av).toList ++ [])
 rw [List.append_nil]
theorem early_no {L A:List HeldM} {cap:Nat} (g:GoodL L cap) {y:EntV} {t:Int} (e:L = A ++ [⟨y,t,t⟩]) (h5:y.hard = 5) (h0:y.idle = 0) {p:EntV × Int} (hp:p ∈ outT (t + 4) L):¬ OneE p.1 y:=by
 have nd:=g.nd
 rw [e] at nd hp
 have t0:tagT (t + 4) ⟨y,t,t⟩ = 0:=by
  unfold tagT
  rw [if_neg (by show ¬ (0 < y.hard ∧ y.hard ≤ t + 4 - t); omega),if_neg (by show ¬ (0 < y.idle ∧ y.idle ≤ t + 4 - t); omega)]
 have o:outT (t + 4) [⟨y,t,t⟩] = []:=out_nil.2 fun h hh => by
  obtain rfl:h = _:=by simpa using hh
  exact t0
 rw [out_append,o,List.append_nil] at hp
 unfold outT at hp
 obtain ⟨a,ha,rfl⟩:=List.mem_map.1 hp
 exact (List.pairwise_append.1 nd).2.2 a (List.mem_filter.1 ha).1 _ (.head _)
theorem late_yes {L A:List HeldM} {cap:Nat} (g:GoodL L cap) {y:EntV} {t:Int} (e:L = A ++ [⟨y,t,t⟩]) (h5:y.hard = 5):outT (t + 5) L = outT (t + 5) A ++ [(y,1)] ∧ ∀ p ∈ outT (t + 5) A,¬ OneE p.1 y:=by
 have nd:=g.nd
 rw [e] at nd
 have t1:tagT (t + 5) ⟨y,t,t⟩ = 1:=by
  unfold tagT
  rw [if_pos (by show 0 < y.hard ∧ y.hard ≤ t + 5 - t; omega)]
 have o:outT (t + 5) [⟨y,t,t⟩] = [(y,1)]:=by unfold outT; simp [t1]
 refine ⟨by rw [e,out_append,o],fun p hp => ?_⟩
 unfold outT at hp
 obtain ⟨a,ha,rfl⟩:=List.mem_map.1 hp
 exact (List.pairwise_append.1 nd).2.2 a (List.mem_filter.1 ha).1 _ (.head _)
theorem ycopyg_c {V w:World} {R:List Thing} {S T:Nat} {s t:StM} (h:StoreTwo V w R T t S s) (hN:t.n < 99990) (now:Int) {n:Nat} (hn:(outT (clampT now) t.L).length = n) :
 Calls Tryz.prog 17 #[pS T,.int .i64 now] w fun e w' => ∃ B c G,e = .returned (.slice B n c) ∧ (G.map fun g => (g.e.x,g.tag)) = outT (clampT now) t.L ∧ StoreIs V w' (gonesT (.slice B n c) n G ++ R) S s:=by
 obtain ⟨Us,Xs,h1,k2⟩:=h
 refine (xexpire_c h1 hN now hn).mono ?_
 rintro e w' ⟨B,c,G,rfl,hG,K⟩
 refine ⟨B,c,G,rfl,hG,Xs,Us,K.perm ?_,k2⟩
 exact ((perm_mid (gonesT (.slice B n c) n G) Us R).append_left Xs).trans (perm_mid Xs Us _)
end Go.Proofs.YtbnpelciceblfaaGreat
