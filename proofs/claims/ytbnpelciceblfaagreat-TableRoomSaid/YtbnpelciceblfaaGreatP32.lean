/- YEntries ZKind ZAwa YGone -/
import Derived.Test.YtbnpelciceblfaaGreatP31
namespace Go.Proofs.YtbnpelciceblfaaGreat
set_option linter.unusedVariables false
open Go.ChangeShapes Go.WideShapes Go.ChangeAt Go.RowKit Go.Joins
set_option maxHeartbeats 64000000
theorem Own.rowStoreY {V w:World} {L:List Thing} {E:TypeId} {k B n c:Nat} {xs:List Value} (H:Own V w (rowT E k (.slice (some ⟨B,0,none⟩) n c) n xs :: L)) {j:Nat} {u:Value} (hj:j < xs.length) (hu:u.oneCell' = true) :
 Own V (w.setCell ⟨B,j,none⟩ u) (rowT E k (.slice (some ⟨B,0,none⟩) n c) n (xs.set j u) :: L):=by
 have h2:=ownsRow_store H.head hj hu
 refine H.turn (s:=rowT E k (.slice (some ⟨B,0,none⟩) n c) n (xs.set j u)) ?_ h2 (rowT_stable _ _ _ _ _) fun i hi => ⟨.inl hi,(h2.lt i (by simpa using hi)).2⟩
 exact setCell_but w ⟨B,j,none⟩ u
theorem rowY_slice {w:World} {E:TypeId} {k n:Nat} {v:Value} {xs:List Value} (h:w.ownsRow 0 E k v n xs) (hn:0 < n) :
 ∃ B c,v = .slice (some ⟨B,0,none⟩) n c ∧ ∀ j u,xs[j]? = some u → w.cell? ⟨B,j,none⟩ = some u:=by
 have hh:=h
 rcases h.2 with ⟨_,q2⟩ | ⟨g,cap,cur,rfl,hb,hg,r⟩
 · omega
 · refine ⟨g,cap,rfl,fun j u hu => ?_⟩
   have q:=hh.cells (g:=g) rfl j u hu
   rwa [Addr.add_lit,Nat.zero_add] at q
theorem row_freeY {w:World} {E:TypeId} {k n c B:Nat} {xs:List Value} (h:w.ownsRow 0 E k (.slice (some ⟨B,0,none⟩) n c) n xs) (j:Nat):w.frozen? ⟨B,j,none⟩ = false:=by
 rcases h.2 with ⟨q,_⟩ | ⟨g,cap,cur,q,hb,hg,r⟩
 · cases q
 · cases q
   unfold World.frozen?; simp [hg]
theorem ents_at {V w:World} {L:List Thing} {B:Option Addr} {n c:Nat} {E:List EntM} (H:Own V w L) (hm:∀ t ∈ entsT (.slice B n c) n E,t ∈ L) (hn:E.length = n):EntsAt w B (E.map (·.x)):=fun j x hj => by
 rw [List.getElem?_map] at hj
 cases q:E[j]? with
 | none => rw [q] at hj; cases hj
 | some e =>
   rw [q] at hj
   obtain rfl:e.x = x:=by simpa using hj
   have hjl:=(List.getElem?_eq_some_iff.1 q).1
   obtain ⟨Bk,cc,eB,hc⟩:=rowY_slice (H.holds _ (hm _ (.head _))) (by omega)
   injection eB with e1
   refine ⟨Bk,e1,e.av,?_,fun i hi => ?_⟩
   · exact ArgsAt.row (H.holds (argT e) (hm _ (.tail _ (List.mem_map.2 ⟨e,List.mem_of_getElem? q,rfl⟩)))) rfl
   · have k:=cellsE_at E j e q i hi
     obtain ⟨v,hv⟩ : ∃ v,(entC e.x e.av)[i]? = some v:=⟨(entC e.x e.av)[i]'(show i < 11 from hi),Array.getElem?_eq_getElem _⟩
     rw [hv] at k ⊢
     exact hc _ _ k
theorem ents_focus {v:Value} {n i:Nat} {E:List EntM} {e:EntM} (he:E[i]? = some e):(entsT v n E).Perm (argT e :: rowE v n E :: (E.eraseIdx i).map argT):=by
 obtain ⟨hi,rfl⟩:=List.getElem?_eq_some_iff.1 he
 have p:(E.map argT).Perm (argT E[i] :: (E.eraseIdx i).map argT):=by
  have e:E = E.take i ++ E[i] :: E.drop (i + 1):=by rw [List.getElem_cons_drop,List.take_append_drop]
  have q:E.Perm (E[i] :: E.eraseIdx i):=by
   rw [List.eraseIdx_eq_take_drop_succ]
   conv => lhs; rw [e]
   exact List.perm_middle
  exact q.map argT
 exact (List.Perm.cons _ p).trans (List.Perm.swap _ _ _)
theorem cellsE_argset:∀ (E:List EntM) (i:Nat) (e:EntM) (l:List Int),E[i]? = some e → cellsE (E.set i ⟨{ e.x with args:=l },e.av⟩) = cellsE E
 | [],i,e,l,h => by simp at h
 | y :: E,0,e,l,h => by
   obtain rfl:y = e:=by simpa using h
   rfl
 | y :: E,i + 1,e,l,h => by
   rw [List.set_cons_succ,cellsE_cons,cellsE_cons,cellsE_argset E i e l (by simpa using h)]
theorem ents_over {V w:World} {R:List Thing} {v:Value} {n i k g m cap:Nat} {E:List EntM} {e:EntM} (H:Own V w (entsT v n E ++ R)) (he:E[i]? = some e) (hm:e.x.args.length = m) (hav:e.av = .slice (some ⟨g,0,none⟩) m cap) (hk:k < m) (u:Int) :
 Own V (w.setCell ⟨g,k,none⟩ (.int .u64 u)) (entsT v n (E.set i ⟨{ e.x with args:=e.x.args.set k u },e.av⟩) ++ R) ∧ w.frozen? ⟨g,k,none⟩ = false ∧ ∃ z,w.cell? ⟨g,k,none⟩ = some z:=by
 have H1:=H.perm ((ents_focus (v:=v) (n:=n) he).append_right R)
 have H1:Own V w (argT e :: (rowE v n E :: (E.eraseIdx i).map argT ++ R)):=H1
 have ea:argT e = rowT 24 1 (.slice (some ⟨g,0,none⟩) m cap) m (u64s e.x.args):=by
  show rowT 24 1 e.av e.x.args.length (u64s e.x.args) = _
  rw [hav,hm]
 rw [ea] at H1
 have fr:=row_freeY H1.head k
 obtain ⟨Bq,cq,eq,hc⟩:=rowY_slice H1.head (by omega)
 cases eq
 have hk2:k < (u64s e.x.args).length:=by rw [u64s_length,hm]; exact hk
 refine ⟨?_,fr,_,hc k _ (List.getElem?_eq_getElem hk2)⟩
 have H2:=H1.rowStoreY (j:=k) (u:=.int .u64 u) hk2 rfl
 have hi:=(List.getElem?_eq_some_iff.1 he).1
 have he2:(E.set i ⟨{ e.x with args:=e.x.args.set k u },e.av⟩)[i]? = some ⟨{ e.x with args:=e.x.args.set k u },e.av⟩:=by rw [List.getElem?_set_self hi]
 refine Own.perm ?_ ((ents_focus (v:=v) (n:=n) he2).append_right R).symm
 rw [List.eraseIdx_set_eq]
 show Own V _ (argT ⟨{ e.x with args:=e.x.args.set k u },e.av⟩ :: (rowE v n (E.set i ⟨{ e.x with args:=e.x.args.set k u },e.av⟩) :: (E.eraseIdx i).map argT ++ R))
 have ea2:argT ⟨{ e.x with args:=e.x.args.set k u },e.av⟩ = rowT 24 1 (.slice (some ⟨g,0,none⟩) m cap) m ((u64s e.x.args).set k (.int .u64 u)):=by
  show rowT 24 1 e.av (e.x.args.set k u).length (u64s (e.x.args.set k u)) = _
  rw [hav,List.length_set,hm]
  unfold u64s
  rw [List.map_set]
 have er:rowE v n (E.set i ⟨{ e.x with args:=e.x.args.set k u },e.av⟩) = rowE v n E:=by
  show rowT 26 11 v n (cellsE (E.set i ⟨{ e.x with args:=e.x.args.set k u },e.av⟩)) = _
  rw [cellsE_argset E i e _ he]
 rw [ea2,er]
 exact H2
set_option maxRecDepth 20000 in
theorem yentries_c {V w:World} {R:List Thing} {B Bb:Option Addr} {n c cb:Nat} {E:List EntM} {L:List EntV} (H:Own V w (entsT (.slice B n c) n E ++ R)) (hE:E.map (·.x) = L) (hn:L.length = n) (hl:n < 100000) (hb:∀ W,Own V W R → EntsAt W Bb L) (hs:∀ x ∈ L,x.args.length < 100000) :
 Calls Tryz.prog 27 #[.slice B n c,.slice Bb n cb] w fun e w' => e = .returned (.bool true) ∧ Own V w' R:=by
 have hEn:E.length = n:=by rw [← hn,← hE,List.length_map]
 have HN:=Lib.hid hn
 have HE:=Lib.hid hE
 have HEN:=Lib.hid hEn
 have HB:=Lib.hid hb
 have HS:=Lib.hid hs
 have e0:((n:Int) == (n:Int)) = true:=by simp
 have HES:=Lib.hid (show E.length = n ∧ ∀ x ∈ E,x.x.args.length < 100000 from ⟨hEn,fun x hx => hs x.x (by rw [← hE]; exact List.mem_map.2 ⟨x,hx,rfl⟩)⟩)
 clear hE hn hb hs hEn
 go_enter Tryz.func27,Tryz.ntmps27
 go_wp2
 go_loopw [5,6] (fun a b wr => ∃ j:Nat,j ≤ n ∧ a = .bool true ∧ b = .int .i64 (j:Int) ∧ Own V wr (entsT (.slice B n c) n E ++ R)) (fun _ b _ => n - (intOf b).toNat)
 case atStart => exact ⟨0,Nat.zero_le _,rfl,rfl,H⟩
 case round =>
  clear H
  obtain ⟨j,hj,rfl,rfl,H⟩:=hrel
  have j0:(0:Int) ≤ (j:Int):=by omega
  by_cases d1:j < n
  · have j1:(j:Int) < (n:Int):=by omega
    obtain ⟨x,hx⟩ : ∃ x,L[j]? = some x:=⟨L[j]'(by rw [HN.out]; exact d1),List.getElem?_eq_getElem _⟩
    have hsx:=HS.out x (List.mem_of_getElem? hx)
    have EA:=ents_at H (fun t ht => List.mem_append_left _ ht) HEN.out
    rw [HE.out] at EA
    obtain ⟨B1,rfl,ka⟩:=EA j x hx
    obtain ⟨B2,rfl,kb⟩:=HB.out wr (own_rest H) j x hx
    obtain ⟨Aa,na,ca,hna,ra,a0,a1,a2,a3,a4,a5,a6,a7,a8,a9,a10⟩:=ka.cells
    obtain ⟨Ab,nb,cb2,hnb,rb,b0,b1,b2,b3,b4,b5,b6,b7,b8,b9,b10⟩:=kb.cells
    have zs:=fun (z:After wr) => ysame_c x x (cap:=ca) (cap2:=cb2) z.w (ra.on z.h) (rb.on z.h) (by omega) (decide_eq_true rfl)
    obtain ⟨xtb,xkey,xoth,xln,xpr,xbk,xargs,xidle,xhard,xck,xtl⟩:=x
    have q:=fun (z:After wr) => And.intro (wkeep z.h a0) (And.intro (wkeep z.h a1) (And.intro (wkeep z.h a2) (And.intro (wkeep z.h a3) (And.intro (wkeep z.h a4) (And.intro (wkeep z.h a5) (And.intro (wkeep z.h a6) (And.intro (wkeep z.h a7) (And.intro (wkeep z.h a8) (And.intro (wkeep z.h a9) (wkeep z.h a10))))))))))
    have r:=fun (z:After wr) => And.intro (wkeep z.h b0) (And.intro (wkeep z.h b1) (And.intro (wkeep z.h b2) (And.intro (wkeep z.h b3) (And.intro (wkeep z.h b4) (And.intro (wkeep z.h b5) (And.intro (wkeep z.h b6) (And.intro (wkeep z.h b7) (And.intro (wkeep z.h b8) (And.intro (wkeep z.h b9) (wkeep z.h b10))))))))))
    have q0:=fun z => (q z).1
    have q1:=fun z => (q z).2.1
    have q2:=fun z => (q z).2.2.1
    have q3:=fun z => (q z).2.2.2.1
    have q4:=fun z => (q z).2.2.2.2.1
    have q5:=fun z => (q z).2.2.2.2.2.1
    have q6:=fun z => (q z).2.2.2.2.2.2.1
    have q7:=fun z => (q z).2.2.2.2.2.2.2.1
    have q8:=fun z => (q z).2.2.2.2.2.2.2.2.1
    have q9:=fun z => (q z).2.2.2.2.2.2.2.2.2.1
    have q10:=fun z => (q z).2.2.2.2.2.2.2.2.2.2
    have r0:=fun z => (r z).1
    have r1:=fun z => (r z).2.1
    have r2:=fun z => (r z).2.2.1
    have r3:=fun z => (r z).2.2.2.1
    have r4:=fun z => (r z).2.2.2.2.1
    have r5:=fun z => (r z).2.2.2.2.2.1
    have r6:=fun z => (r z).2.2.2.2.2.2.1
    have r7:=fun z => (r z).2.2.2.2.2.2.2.1
    have r8:=fun z => (r z).2.2.2.2.2.2.2.2.1
    have r9:=fun z => (r z).2.2.2.2.2.2.2.2.2.1
    have r10:=fun z => (r z).2.2.2.2.2.2.2.2.2.2
    clear q r a0 a1 a2 a3 a4 a5 a6 a7 a8 a9 a10 b0 b1 b2 b3 b4 b5 b6 b7 b8 b9 b10 EA ka kb hx ra rb
    go_upto_region 5 with (fail)
    refine wp_region_after (by kernel_rfl) (by kernel_rfl) (Wider.refl wr) ?_
    repeat (go_big_quiet_step (first | (go_at_call 25; with_reducible exact quiet_after (zs _))))
    refine wpQuiet_nil ?_
    rintro _ ⟨z,rfl⟩
    have H2:=H.quiet z.h
    clear H zs q0 q1 q2 q3 q4 q5 q6 q7 q8 q9 q10 r0 r1 r2 r3 r4 r5 r6 r7 r8 r9 r10
    go_wp2
    go_roundw
    case rel => exact ⟨j + 1,by omega,rfl,by go_num,H2⟩
    case measure => simp [intOf]; omega
  · obtain rfl:j = n:=by omega
    have j1:¬ (j:Int) < (j:Int):=by omega
    clear HE HS HB
    go_wp2
    go_loopw [7] (fun a wr => ∃ (i:Nat) (F:List EntM),i ≤ j ∧ a = .int .i64 (i:Int) ∧ Hid (F.length = j ∧ ∀ x ∈ F,x.x.args.length < 100000) ∧ Own V wr (entsT (.slice B j c) j F ++ R)) (fun a _ => j - (intOf a).toNat)
    case atStart => exact ⟨0,E,Nat.zero_le _,rfl,HES,H⟩
    case round =>
     clear H
     obtain ⟨i,F,hi0,rfl,HF,H⟩:=hrel
     have i0:(0:Int) ≤ (i:Int):=by omega
     by_cases d:i < j
     · have i1:(i:Int) < (j:Int):=by omega
       obtain ⟨e,he⟩ : ∃ e,F[i]? = some e:=⟨F[i]'(by rw [HF.out.1]; exact d),List.getElem?_eq_getElem _⟩
       have hel:=HF.out.2 e (List.mem_of_getElem? he)
       obtain ⟨Aa,ca,ea⟩ : ∃ A c,e.av = .slice A e.x.args.length c:=ownsRow_shape (H.holds (argT e) (List.mem_append_left _ (.tail _ (List.mem_map.2 ⟨e,List.mem_of_getElem? he,rfl⟩))))
       obtain ⟨na,hna⟩ : ∃ na,e.x.args.length = na:=⟨_,rfl⟩
       rw [hna] at ea hel
       obtain ⟨Bk,cc,eB,_⟩:=rowY_slice (H.holds _ (.head _)) (by omega)
       cases eB
       have HX:=Lib.hid (show ∃ e',F[i]? = some e' ∧ e'.av = .slice Aa na ca ∧ e'.x.args.length = na from ⟨e,he,ea,hna⟩)
       clear he ea hna
       go_wp2
       go_loopw [8] (fun b wr => ∃ (k:Nat) (G:List EntM),k ≤ na ∧ b = .int .i64 (k:Int) ∧ Hid (G.length = j ∧ ∀ x ∈ G,x.x.args.length < 100000) ∧ Hid (∃ e',G[i]? = some e' ∧ e'.av = .slice Aa na ca ∧ e'.x.args.length = na) ∧ Own V wr (entsT (.slice (some ⟨Bk,0,none⟩) j c) j G ++ R)) (fun b _ => na - (intOf b).toNat)
       case atStart => exact ⟨0,F,Nat.zero_le _,rfl,HF,HX,H⟩
       case round =>
        clear H HF HX
        obtain ⟨k,G,hk0,rfl,HG,HX,H⟩:=hrel
        have k0:(0:Int) ≤ (k:Int):=by omega
        obtain ⟨e',he,ea,hna⟩:=HX.out
        obtain ⟨B2,c2,eB2,hc⟩:=rowY_slice (H.holds _ (.head _)) (by omega)
        cases eB2
        have a6:=hc (i * 11 + 6) (.slice Aa na ca) (by rw [cellsE_at G i e' he 6 (by decide)]; show some e'.av = _; rw [ea])
        by_cases dk:k < na
        · have k1:(k:Int) < (na:Int):=by omega
          obtain ⟨g,rfl⟩ : ∃ g,Aa = some ⟨g,0,none⟩:=by
           have q:=H.holds (argT e') (List.mem_append_left _ (.tail _ (List.mem_map.2 ⟨e',List.mem_of_getElem? he,rfl⟩)))
           obtain ⟨B3,c3,eq,_⟩:=rowY_slice q (by omega)
           rw [ea] at eq
           injection eq with eq1
           exact ⟨B3,eq1⟩
          obtain ⟨H2,fr,z,hz⟩:=ents_over (k:=k) H he hna ea dk 99
          have HY:=Lib.hid (show (G.set i ⟨{ e'.x with args:=e'.x.args.set k 99 },e'.av⟩).length = j ∧ ∀ x ∈ G.set i ⟨{ e'.x with args:=e'.x.args.set k 99 },e'.av⟩,x.x.args.length < 100000 from ⟨by rw [List.length_set]; exact HG.out.1,fun x hx => by
           rcases List.mem_or_eq_of_mem_set hx with hx | rfl
           · exact HG.out.2 x hx
           · show (e'.x.args.set k 99).length < _
             rw [List.length_set,hna]; exact hel⟩)
          have HZ:=Lib.hid (show ∃ e'',(G.set i ⟨{ e'.x with args:=e'.x.args.set k 99 },e'.av⟩)[i]? = some e'' ∧ e''.av = .slice (some ⟨g,0,none⟩) na ca ∧ e''.x.args.length = na from ⟨_,List.getElem?_set_self (List.getElem?_eq_some_iff.1 he).1,ea,by show (e'.x.args.set k 99).length = _; rw [List.length_set,hna]⟩)
          have H3:=Lib.hid H2
          clear H H2 he ea hna hc HG HX
          go_wp2
          go_roundw
          case rel => exact ⟨k + 1,_,by omega,by go_num,HY,HZ,H3.out⟩
          case measure => simp [intOf]; omega
        · obtain rfl:k = na:=by omega
          have k1:¬ (k:Int) < (k:Int):=by omega
          clear he ea hna hc
          go_wp2
          go_roundw
          case rel => exact ⟨i + 1,G,by omega,by go_num,HG,H⟩
          case measure => simp [intOf]; omega
     · obtain rfl:i = j:=by omega
       have i1:¬ (i:Int) < (i:Int):=by omega
       go_wp2
       go_ret
       exact ⟨rfl,own_rest H⟩
def StoK (k:Int) (ws:List Nat) (T:List Thing) (S:Nat) (s:StM):Prop:=∃ Xs,∃ d:StoD,T = d.things S ++ Xs ∧ StF d Xs s ∧ d.t.kind = k ∧ d.ws = ws
def StoreK (k:Int) (ws:List Nat) (V w:World) (R:List Thing) (S:Nat) (s:StM):Prop:=∃ T,Own V w (T ++ R) ∧ StoK k ws T S s
section
variable {V w:World} {R:List Thing} {S:Nat} {s:StM} {k:Int} {ws:List Nat}
theorem StoreK.is (h:StoreK k ws V w R S s):StoreIs V w R S s:=by
 obtain ⟨T,H,Xs,d,rfl,f,_,_⟩:=h
 rw [List.append_assoc] at H
 exact ⟨Xs,_,H,d,rfl,f⟩
theorem StoreK.quiet {w':World} (h:StoreK k ws V w R S s) (g:Wider w w'):StoreK k ws V w' R S s:=by
 obtain ⟨T,H,q⟩:=h; exact ⟨T,H.quiet g,q⟩
theorem StoreK.rest (h:StoreK k ws V w R S s):Own V w R:=h.is.rest
theorem StoreK.wider (h:StoreK k ws V w R S s):Wider V w:=h.is.wider
theorem knew_c (H:Own V w R) (t:TabV) {KA:Option Addr} {kn kc:Nat} (hk:∀ W,Own V W R → NumsAt W (.slice KA kn kc) t.keys) (hl:kn < 1000) {WA:Option Addr} {wn wc:Nat} {zs:List Int} (hz:∀ W,Own V W R → NumsAt W (.slice WA wn wc) zs) (hl2:wn < 1000) (hm:MayTab t zs) :
 Calls Tryz.prog 11 #[.agg (tabC t (.slice KA kn kc)),.slice WA wn wc] w fun e w' => ∃ S,e = .returned (.tuple #[pS S,.int .i64 0]) ∧ StoreK t.kind (zs.map Int.toNat) V w' R S ⟨t.id,kmOf t.kind (zs.map Int.toNat),t.cap.toNat,[],0⟩:=by
 refine (znew_k H t hk hl hz hl2).mono ?_
 rintro e w' (⟨h,_,_⟩ | ⟨_,S,rfl,Xs,Ts,K,d,rfl,f,h1,h2⟩)
 · exact absurd hm h
 · exact ⟨S,rfl,_,by rw [List.append_assoc]; exact K,Xs,d,rfl,f,h1,h2⟩
theorem kput_c (h:StoreK k ws V w R S s) (hN:s.n < 99990) {x:EntV} {av:Value} (ha:∀ W,Own V W R → ArgsAt W av x.args) (ho:x.Ok) (hm:mayT s x = true) (hno:¬ hasE s.L x) (room:s.L.length < s.cap) (now:Int) :
 Calls Tryz.prog 10 #[pS S,entV x av,.int .i64 now] w fun e w' => e = .returned (.int .i64 0) ∧ StoreK k ws V w' R S { s with L:=s.L ++ [⟨x,clampT now,clampT now⟩],n:=s.n + 1 } :=by
 have hr:=h.rest
 obtain ⟨T,K,Xs,d,rfl,f,h1,h2⟩:=h
 rw [List.append_assoc] at K
 obtain ⟨A,n,c,rfl,hn,_⟩:=id (ha w hr)
 have hl:s.L.length = d.E.length:=by rw [f.hL,List.length_map]
 refine (zputN_a K f hN x ha ho hm (fun p hp o => hno ⟨HeldP.m p,by rw [f.hL]; exact List.mem_map.2 ⟨p,hp,rfl⟩,o⟩) (by omega) now).mono ?_
 rintro e w' ⟨rfl,BI,cI,hv,Es2,_,K2,he⟩
 have ep:putS s x now = { s with L:=s.L ++ [⟨x,clampT now,clampT now⟩],n:=s.n + 1 } :=by
  unfold putS
  rw [if_pos ⟨hm,.inr room⟩]
  unfold putE
  rw [butE_none hno]
 rw [← ep]
 exact ⟨rfl,_,by rw [List.append_assoc]; exact K2,_,_,rfl,f.snoc (hv:=hv) (List.Sublist.refl _) (by rw [butE_none hno,f.hL]) hm ho (.inr room) he,h1,h2⟩
def LookO (k:Int) (ws:List Nat) (L:List HeldM) (key:ByteArray) (o:Option HeldM):Prop:=∀ E:List HeldP,E.map HeldP.m = L → (E.Pairwise fun a b => a.pl < b.pl) → ∀ v b,FindK k ws (E.map HeldP.kp) key v b → match o with | none => b = false | some g => b = true ∧ ∀ (i:Nat) (h:HeldP),E[i]? = some h → (h.pl:Int) = v → HeldP.m h = g
theorem look_at {E:List HeldP} {L:List HeldM} {key:ByteArray} {o:Option HeldM} {r:Int} (h:LookO k ws L key o) (hE:E.map HeldP.m = L) (asc:E.Pairwise fun a b => a.pl < b.pl) (hk:key.size = ws.sum) (f:FoundS k ws E key r):(r = -1 ∧ o = none) ∨ ∃ i p,r = ((i:Nat):Int) ∧ E[i]? = some p ∧ o = some (HeldP.m p):=by
 rcases f with ⟨n,_⟩ | ⟨_,v,b,hf,c⟩
 · exact absurd hk n
 · have q:=h E hE asc v b hf
   rcases c with ⟨rfl,rfl⟩ | ⟨rfl,i,p,hi,hp,rfl⟩
   · cases o with
     | none => exact .inl ⟨rfl,rfl⟩
     | some g => exact absurd q.1 (by decide)
   · cases o with
     | none => exact Bool.noConfusion (show true = false from q)
     | some g => exact .inr ⟨i,p,rfl,hi,by rw [q.2 i p hi hp]⟩
theorem klook_c (h:StoreK k ws V w R S s) (hN:s.n < 99990) (key:ByteArray) (hk:key.size = ws.sum) (hk2:key.size < 1000) {o:Option HeldM} (ho:LookO k ws s.L key o) :
 Calls Tryz.prog 14 #[pS S,.string key] w fun e w' => (∃ x A n c,x = (match o with | none => zeroX | some g => g.x) ∧ e = .returned (.tuple #[entV x (.slice A n c),.bool o.isSome])) ∧ StoreK k ws V w' R S s:=by
 obtain ⟨T,K,Xs,d,rfl,f,h1,h2⟩:=h
 rw [List.append_assoc] at K
 refine (zlook_a K f hN key (by omega)).mono ?_
 rintro e w' ⟨r,Es2,hf,he,c⟩
 rw [h1,h2] at hf
 have f2:StF { d with Es:=Es2 } Xs s:={ f with eng:=he }
 rcases look_at ho f.hL.symm f.asc hk hf with ⟨rfl,rfl⟩ | ⟨i,p,rfl,hp,rfl⟩
 · rcases c with ⟨_,rfl,K2⟩ | ⟨i,h,BI,na,cI,q,_⟩
   · exact ⟨⟨_,_,_,_,rfl,rfl⟩,_,by rw [List.append_assoc]; exact K2,Xs,_,rfl,f2,h1,h2⟩
   · omega
 · rcases c with ⟨q,_⟩ | ⟨i2,h,BI,na,cI,q,hi,_,rfl,K2⟩
   · omega
   · have e:i2 = i:=by omega
     subst e
     rw [hp] at hi
     cases hi
     exact ⟨⟨_,_,_,_,rfl,rfl⟩,_,by rw [List.append_assoc]; exact own_unbox K2,Xs,_,rfl,f2,h1,h2⟩
theorem kfind_c (h:StoreK k ws V w R S s) (hN:s.n < 99990) (key:ByteArray) (hk:key.size = ws.sum) (hk2:key.size < 1000) {g:HeldM} (hL:s.L = [g]) (ho:LookO k ws s.L key (some g)) (now:Int) :
 Calls Tryz.prog 13 #[pS S,.string key,.int .i64 now] w fun e w' => (∃ v,e = .returned v) ∧ StoreK k ws V w' R S { s with L:=[{ g with found:=clampT now }] } :=by
 obtain ⟨T,K,Xs,d,rfl,f,h1,h2⟩:=h
 rw [List.append_assoc] at K
 refine (zfind_a K f hN key (by omega) now).mono ?_
 rintro e w' ⟨r,Es2,hf,he,c⟩
 rw [h1,h2] at hf
 rcases look_at ho f.hL.symm f.asc hk hf with ⟨rfl,q⟩ | ⟨i,p,rfl,hp,q⟩
 · cases q
 · rcases c with ⟨q,_⟩ | ⟨i2,h,BI,na,cI,q2,hi,_,rfl,K2⟩
   · omega
   · have e:i2 = i:=by omega
     subst e
     rw [hp] at hi
     cases hi
     have eg:HeldP.m p = g:=by cases q; rfl
     have hL2:d.E.map HeldP.m = [g]:=by rw [← f.hL,hL]
     have l1:d.E.length = 1:=by have:=congrArg List.length hL2; rw [List.length_map] at this; exact this
     obtain ⟨hi2,ep⟩:=List.getElem?_eq_some_iff.1 hp
     have i0:i2 = 0:=by omega
     subst i0
     have eE:d.E.set 0 (p.at_ (clampT now)) = [p.at_ (clampT now)]:=by
      match hE:d.E,l1 with
      | [y],_ => rfl
     have f2:=f.used hp (clampT_le now) he
     have eL:(d.E.set 0 (p.at_ (clampT now))).map HeldP.m = [{ g with found:=clampT now }]:=by
      rw [eE,← eg]; rfl
     rw [eL] at f2
     exact ⟨⟨_,rfl⟩,_,by rw [List.append_assoc]; exact own_unbox K2,Xs,_,rfl,f2,h1,h2⟩
end
theorem StoreK.less {V w:World} {R:List Thing} {S:Nat} {s:StM} {k:Int} {ws:List Nat} {t:Thing} (h:StoreK k ws V w (t :: R) S s):StoreK k ws V w R S s:=by
 obtain ⟨T,H,q⟩:=h
 exact ⟨T,own_unbox (A:=[]) (B:=T) (t:=t) (R:=R) H,q⟩
theorem nums_blk {V W:World} {L:List Thing} {B n c:Nat} {zs:List Int} {T:TypeId} (H:Own V W L) (hm:blkT B (intsZ zs).toArray T ∈ L) (hn:zs.length = n):NumsAt W (.slice (some ⟨B,0,none⟩) n c) zs:=by
 refine ⟨_,_,_,rfl,hn,fun e => (by cases e),fun a ea j z hj => ?_⟩
 cases ea
 have k:=blk_cell (H.holds _ hm) j (v:=.int .i64 z) (by
  show (intsZ zs).toArray[j]? = _
  rw [List.getElem?_toArray]
  unfold intsZ
  rw [List.getElem?_map,hj]; rfl)
 have e:(⟨B,0,none⟩ : Addr).add j = ⟨B,j,none⟩:=by unfold Addr.add; split <;> simp_all
 rw [e]; exact k
theorem zmakeI1 (w:World):(Instr.makeSlice 34 (.int .i64 1) (.int .i64 1)).run Tryz.prog w = .ok (.slice (some ⟨w.heap.size,0,none⟩) 1 1) (w.alloc (.cells #[.int .i64 0] 3)):=by
 kernel_rfl
set_option maxRecDepth 20000 in
theorem of1_c {V w:World} {R:List Thing} (H:Own V w R) {kind room:Int} {WA:Option Addr} {wc:Nat} {zs:List Int} (hz:∀ W,Own V W R → NumsAt W (.slice WA 1 wc) zs) (hm:MayTab ⟨1,kind,[0],room,0⟩ zs) :
 Calls Tryz.prog 8 #[.int .u8 kind,.int .i64 room,.slice WA 1 wc] w fun e w' => ∃ S,e = .returned (pS S) ∧ StoreK kind (zs.map Int.toNat) V w' R S ⟨1,kmOf kind (zs.map Int.toNat),room.toNat,[],0⟩:=by
 have hmk:=zmakeI1 w
 have H1:=H.blk #[.int .i64 0] 3
 obtain ⟨B,hB⟩ : ∃ B,w.heap.size = B:=⟨_,rfl⟩
 obtain ⟨W1,hW1⟩ : ∃ W1,w.alloc (.cells #[.int .i64 0] 3) = W1:=⟨_,rfl⟩
 rw [hB,hW1] at H1 hmk
 have zn:=knew_c H1 ⟨1,kind,[0],room,0⟩ (KA:=some ⟨B,0,none⟩) (kn:=1) (kc:=1) (fun W k => nums_blk (zs:=[0]) k (.head _) rfl) (by decide) (fun W k => hz W k.drop) (by decide) hm
 have zn:Calls Tryz.prog 11 #[.agg #[.int .i64 1,.int .u8 kind,.slice (some ⟨B,0,none⟩) 1 1,.int .i64 room,.int .i64 0],.slice WA 1 wc] W1 fun e w' => ∃ S,e = .returned (.tuple #[pS S,.int .i64 0]) ∧ StoreK kind (zs.map Int.toNat) V w' (blkT B #[.int .i64 0] 3 :: R) S ⟨1,kmOf kind (zs.map Int.toNat),room.toNat,[],0⟩:=zn
 clear hB hW1 H1 H hz hm
 go_enter Tryz.func8,Tryz.ntmps8
 go_wp2_with (first
  | (go_at_call 11; ((with_reducible refine zn.mono ?_); rintro e w1 ⟨S,rfl,K⟩; clear zn hmk)))
 go_ret
 exact ⟨S,rfl,K.less⟩
theorem zmakeI2 (w:World):(Instr.makeSlice 34 (.int .i64 2) (.int .i64 2)).run Tryz.prog w = .ok (.slice (some ⟨w.heap.size,0,none⟩) 2 2) (w.alloc (.cells #[.int .i64 0,.int .i64 0] 3)):=by
 kernel_rfl
set_option maxRecDepth 20000 in
theorem of2_c {V w:World} {R:List Thing} (H:Own V w R) {kind room:Int} {WA:Option Addr} {wc:Nat} {zs:List Int} (hz:∀ W,Own V W R → NumsAt W (.slice WA 2 wc) zs) (hm:MayTab ⟨1,kind,[0,0],room,0⟩ zs) :
 Calls Tryz.prog 8 #[.int .u8 kind,.int .i64 room,.slice WA 2 wc] w fun e w' => ∃ S,e = .returned (pS S) ∧ StoreK kind (zs.map Int.toNat) V w' R S ⟨1,kmOf kind (zs.map Int.toNat),room.toNat,[],0⟩:=by
 have hmk:=zmakeI2 w
 have H1:=H.blk #[.int .i64 0,.int .i64 0] 3
 obtain ⟨B,hB⟩ : ∃ B,w.heap.size = B:=⟨_,rfl⟩
 obtain ⟨W1,hW1⟩ : ∃ W1,w.alloc (.cells #[.int .i64 0,.int .i64 0] 3) = W1:=⟨_,rfl⟩
 rw [hB,hW1] at H1 hmk
 have zn:=knew_c H1 ⟨1,kind,[0,0],room,0⟩ (KA:=some ⟨B,0,none⟩) (kn:=2) (kc:=2) (fun W k => nums_blk (zs:=[0,0]) k (.head _) rfl) (by decide) (fun W k => hz W k.drop) (by decide) hm
 have zn:Calls Tryz.prog 11 #[.agg #[.int .i64 1,.int .u8 kind,.slice (some ⟨B,0,none⟩) 2 2,.int .i64 room,.int .i64 0],.slice WA 2 wc] W1 fun e w' => ∃ S,e = .returned (.tuple #[pS S,.int .i64 0]) ∧ StoreK kind (zs.map Int.toNat) V w' (blkT B #[.int .i64 0,.int .i64 0] 3 :: R) S ⟨1,kmOf kind (zs.map Int.toNat),room.toNat,[],0⟩:=zn
 clear hB hW1 H1 H hz hm
 go_enter Tryz.func8,Tryz.ntmps8
 go_wp2_with (first
  | (go_at_call 11; ((with_reducible refine zn.mono ?_); rintro e w1 ⟨S,rfl,K⟩; clear zn hmk)))
 go_ret
 exact ⟨S,rfl,K.less⟩
abbrev putX (tb:Int) (key oth:ByteArray) (ln bk idle hard:Int):EntV:=⟨tb,key,oth,ln,0,bk,[],idle,hard,0,false⟩
set_option maxRecDepth 20000 in
theorem puts_c {V w:World} {R:List Thing} {S:Nat} {s:StM} {k:Int} {ws:List Nat} (h:StoreK k ws V w R S s) (hN:s.n < 99990) (key oth:ByteArray) (ln bk idle hard now:Int) (ho:(putX 1 key oth ln bk idle hard).Ok) (hm:mayT s (putX 1 key oth ln bk idle hard) = true) (hno:¬ hasE s.L (putX 1 key oth ln bk idle hard)) (room:s.L.length < s.cap) :
 Calls Tryz.prog 28 #[pS S,.agg #[.int .i64 0,.string key,.string oth,.int .i64 ln,.int .i64 0,.int .i64 bk,.slice none 0 0,.int .i64 idle,.int .i64 hard,.int .u64 0,.bool false],.int .i64 now] w fun e w' => e = .returned (.bool true) ∧ StoreK k ws V w' R S { s with L:=s.L ++ [⟨putX 1 key oth ln bk idle hard,clampT now,clampT now⟩],n:=s.n + 1 } :=by
 have g:=(Wider.refl w).alloc (.cells #[.int .i64 1,.string key,.string oth,.int .i64 ln,.int .i64 0,.int .i64 bk,.slice none 0 0,.int .i64 idle,.int .i64 hard,.int .u64 0,.bool false] 26)
 have H2:=h.rest.blk #[.int .i64 1,.string key,.string oth,.int .i64 ln,.int .i64 0,.int .i64 bk,.slice none 0 0,.int .i64 idle,.int .i64 hard,.int .u64 0,.bool false] 26
 have zp:=kput_c (h.quiet g) hN (x:=putX 1 key oth ln bk idle hard) (av:=.slice none 0 0) (fun W _ => ⟨none,0,0,rfl,rfl,fun _ => rfl,fun a e => (by cases e)⟩) ho hm hno room now
 have zp:Calls Tryz.prog 10 #[.pointer (some ⟨S,0,none⟩),.agg #[.int .i64 1,.string key,.string oth,.int .i64 ln,.int .i64 0,.int .i64 bk,.slice none 0 0,.int .i64 idle,.int .i64 hard,.int .u64 0,.bool false],.int .i64 now] _ fun e w' => e = .returned (.int .i64 0) ∧ StoreK k ws V w' R S { s with L:=s.L ++ [⟨putX 1 key oth ln bk idle hard,clampT now,clampT now⟩],n:=s.n + 1 } :=zp
 obtain ⟨P,hP⟩ : ∃ P,({ s with L:=s.L ++ [(⟨putX 1 key oth ln bk idle hard,clampT now,clampT now⟩ : HeldM)],n:=s.n + 1 } : StM) = P:=⟨_,rfl⟩
 rw [hP] at zp ⊢
 obtain ⟨W1,hW1⟩ : ∃ W,w.alloc (.cells #[.int .i64 1,.string key,.string oth,.int .i64 ln,.int .i64 0,.int .i64 bk,.slice none 0 0,.int .i64 idle,.int .i64 hard,.int .u64 0,.bool false] 26) = W:=⟨_,rfl⟩
 rw [hW1] at zp H2
 obtain ⟨B1,hB1⟩ : ∃ B,w.heap.size = B:=⟨_,rfl⟩
 rw [hB1] at H2
 have c0:=blk_cell H2.head 0 (v:=.int .i64 1) rfl
 have c1:=blk_cell H2.head 1 (v:=.string key) rfl
 have c2:=blk_cell H2.head 2 (v:=.string oth) rfl
 have c3:=blk_cell H2.head 3 (v:=.int .i64 ln) rfl
 have c4:=blk_cell H2.head 4 (v:=.int .i64 0) rfl
 have c5:=blk_cell H2.head 5 (v:=.int .i64 bk) rfl
 have c6:=blk_cell H2.head 6 (v:=.slice none 0 0) rfl
 have c7:=blk_cell H2.head 7 (v:=.int .i64 idle) rfl
 have c8:=blk_cell H2.head 8 (v:=.int .i64 hard) rfl
 have c9:=blk_cell H2.head 9 (v:=.int .u64 0) rfl
 have c10:=blk_cell H2.head 10 (v:=.bool false) rfl
 clear hP g H2 h hN ho hm hno room
 show Calls Tryz.prog 28 #[.pointer (some ⟨S,0,none⟩),.agg #[.int .i64 0,.string key,.string oth,.int .i64 ln,.int .i64 0,.int .i64 bk,.slice none 0 0,.int .i64 idle,.int .i64 hard,.int .u64 0,.bool false],.int .i64 now] w _
 go_enter Tryz.func28,Tryz.ntmps28
 go_upto_region 2 with (fail)
 try rw [hW1]
 try rw [hB1]
 clear hW1 hB1
 go_wp2_with (first
  | (go_at_call 10; ((with_reducible refine zp.mono ?_); rintro e w1 ⟨rfl,K⟩; clear zp)))
 go_ret
 exact ⟨rfl,K⟩
set_option maxRecDepth 20000 in
theorem finds_c {V w:World} {R:List Thing} {S:Nat} {s:StM} {k:Int} {ws:List Nat} (h:StoreK k ws V w R S s) (hN:s.n < 99990) (key:ByteArray) (hk:key.size = ws.sum) (hk2:key.size < 1000) {o:Option HeldM} (ho:LookO k ws s.L key o) (bk:Int) (hb:match o with | none => bk = 0 | some g => g.x.bk = bk ∧ 0 < bk) :
 Calls Tryz.prog 29 #[pS S,.string key,.int .i64 bk] w fun e w' => e = .returned (.bool true) ∧ StoreK k ws V w' R S s:=by
 have zl:=klook_c h hN key hk hk2 ho
 clear h hN hk hk2
 cases o with
 | none =>
   obtain rfl:bk = 0:=hb
   skip
   show Calls Tryz.prog 29 #[.pointer (some ⟨S,0,none⟩),.string key,.int .i64 0] w _
   have zl:Calls Tryz.prog 14 #[.pointer (some ⟨S,0,none⟩),.string key] w fun e w' => (∃ x A n c,x = zeroX ∧ e = .returned (.tuple #[entV x (.slice A n c),.bool false])) ∧ StoreK k ws V w' R S s:=zl
   go_enter Tryz.func29,Tryz.ntmps29
   go_wp2_with (first
    | (go_at_call 14; ((with_reducible refine zl.mono ?_); rintro e w1 ⟨⟨x,A,n,c,rfl,rfl⟩,K⟩; have K:=K.quiet ((Wider.refl w1).alloc (.cells #[.int .i64 0,.string ⟨#[]⟩,.string ⟨#[]⟩,.int .i64 0,.int .i64 0,.int .i64 0,.slice A n c,.int .i64 0,.int .i64 0,.int .u64 0,.bool false] 26)); clear zl)))
   go_ret
   exact ⟨rfl,K⟩
 | some g =>
   obtain ⟨hx,h0⟩ : g.x.bk = bk ∧ 0 < bk:=hb
   skip
   have e1:(bk == bk) = true:=beq_self_eq_true bk
   have e2:decide (bk > 0) = true:=decide_eq_true h0
   have e3:decide (0 < bk) = true:=decide_eq_true h0
   obtain ⟨x,hgx⟩ : ∃ x,g.x = x:=⟨_,rfl⟩
   show Calls Tryz.prog 29 #[.pointer (some ⟨S,0,none⟩),.string key,.int .i64 bk] w _
   have zl:Calls Tryz.prog 14 #[.pointer (some ⟨S,0,none⟩),.string key] w fun e w' => (∃ y A n c,y = g.x ∧ e = .returned (.tuple #[entV y (.slice A n c),.bool true])) ∧ StoreK k ws V w' R S s:=zl
   rw [hgx] at zl hx
   obtain ⟨tb,xk,xo,ln,pr,bk2,args,idle,hard,ck,tl⟩:=x
   obtain rfl:bk2 = bk:=hx
   clear hgx
   have zl:Calls Tryz.prog 14 #[.pointer (some ⟨S,0,none⟩),.string key] w fun e w' => (∃ A n c,e = .returned (.tuple #[.agg #[.int .i64 tb,.string xk,.string xo,.int .i64 ln,.int .i64 pr,.int .i64 bk2,.slice A n c,.int .i64 idle,.int .i64 hard,.int .u64 ck,.bool tl],.bool true])) ∧ StoreK k ws V w' R S s:=zl.mono fun e w' h => by
    obtain ⟨⟨y,A,n,c,rfl,rfl⟩,K⟩:=h
    exact ⟨⟨A,n,c,rfl⟩,K⟩
   go_enter Tryz.func29,Tryz.ntmps29
   go_wp2_with (first
    | (go_at_call 14; ((with_reducible refine zl.mono ?_); rintro e w1 ⟨⟨A,n,c,rfl⟩,K⟩; have K:=K.quiet ((Wider.refl w1).alloc (.cells #[.int .i64 tb,.string xk,.string xo,.int .i64 ln,.int .i64 pr,.int .i64 bk2,.slice A n c,.int .i64 idle,.int .i64 hard,.int .u64 ck,.bool tl] 26)); clear zl)))
   go_ret
   exact ⟨rfl,K⟩
theorem cellsG_cons (g:GoneM) (l:List GoneM):cellsG (g :: l) = (entC g.e.x g.e.av).toList ++ [.int .i64 g.tag] ++ cellsG l:=rfl
theorem cellsG_at:∀ (l:List GoneM) (j:Nat) (g:GoneM),l[j]? = some g → (∀ i,i < 11 → (cellsG l)[j * 12 + i]? = (entC g.e.x g.e.av)[i]?) ∧ (cellsG l)[j * 12 + 11]? = some (.int .i64 g.tag)
 | [],j,g,h => by simp at h
 | y :: l,0,g,h => by
   obtain rfl:y = g:=by simpa using h
   refine ⟨fun i hi => ?_,?_⟩
   · rw [cellsG_cons,Nat.zero_mul,Nat.zero_add,List.getElem?_append_left (show i < 12 by omega),List.getElem?_append_left (show i < 11 from hi)]
     simp
   · rfl
 | y :: l,j + 1,g,h => by
   have h:l[j]? = some g:=by simpa using h
   obtain ⟨a,b⟩:=cellsG_at l j g h
   refine ⟨fun i hi => ?_,?_⟩
   · rw [cellsG_cons,List.getElem?_append_right (show 12 ≤ (j + 1) * 12 + i by omega)]
     show (cellsG l)[(j + 1) * 12 + i - 12]? = _
     rw [show (j + 1) * 12 + i - 12 = j * 12 + i by omega]
     exact a i hi
   · rw [cellsG_cons,List.getElem?_append_right (show 12 ≤ (j + 1) * 12 + 11 by omega)]
     show (cellsG l)[(j + 1) * 12 + 11 - 12]? = _
     rw [show (j + 1) * 12 + 11 - 12 = j * 12 + 11 by omega]
     exact b
structure GoneAt (w:World) (B j:Nat) (x:EntV) (tag:Int):Prop where
 ent:∃ A n cap,x.args.length = n ∧ ArgsAt w (.slice A n cap) x.args ∧ w.cell? ⟨B,j * 12,none⟩ = some (.int .i64 x.tb) ∧ w.cell? ⟨B,j * 12 + 1,none⟩ = some (.string x.key) ∧ w.cell? ⟨B,j * 12 + 2,none⟩ = some (.string x.oth) ∧ w.cell? ⟨B,j * 12 + 3,none⟩ = some (.int .i64 x.ln) ∧ w.cell? ⟨B,j * 12 + 4,none⟩ = some (.int .i64 x.pr) ∧ w.cell? ⟨B,j * 12 + 5,none⟩ = some (.int .i64 x.bk) ∧ w.cell? ⟨B,j * 12 + 6,none⟩ = some (.slice A n cap) ∧ w.cell? ⟨B,j * 12 + 7,none⟩ = some (.int .i64 x.idle) ∧ w.cell? ⟨B,j * 12 + 8,none⟩ = some (.int .i64 x.hard) ∧ w.cell? ⟨B,j * 12 + 9,none⟩ = some (.int .u64 x.ck) ∧ w.cell? ⟨B,j * 12 + 10,none⟩ = some (.bool x.tl)
 tag:w.cell? ⟨B,j * 12 + 11,none⟩ = some (.int .i64 tag)
theorem gones_at {V w:World} {L:List Thing} {B:Option Addr} {n c:Nat} {G:List GoneM} (H:Own V w L) (hm:∀ t ∈ gonesT (.slice B n c) n G,t ∈ L) (hn:G.length = n) {j:Nat} {x:EntV} {tag:Int} (hj:(G.map fun g => (g.e.x,g.tag))[j]? = some (x,tag)):∃ Bk,B = some ⟨Bk,0,none⟩ ∧ GoneAt w Bk j x tag:=by
 rw [List.getElem?_map] at hj
 cases q:G[j]? with
 | none => rw [q] at hj; cases hj
 | some g =>
   rw [q] at hj
   have hj:(g.e.x,g.tag) = (x,tag):=by simpa using hj
   obtain ⟨rfl,rfl⟩ : g.e.x = x ∧ g.tag = tag:=by simpa using hj
   have hjl:=(List.getElem?_eq_some_iff.1 q).1
   obtain ⟨Bk,cc,eB,hc⟩:=rowY_slice (H.holds _ (hm _ (.head _))) (by omega)
   injection eB with e1
   obtain ⟨a,b⟩:=cellsG_at G j g q
   have ar:ArgsAt w g.e.av g.e.x.args:=ArgsAt.row (H.holds (argT g.e) (hm _ (.tail _ (List.mem_map.2 ⟨g,List.mem_of_getElem? q,rfl⟩)))) rfl
   obtain ⟨A,nn,cap,ea,hnn,_⟩:=id ar
   have f:=fun i (hi:i < 11) v (hv:(entC g.e.x g.e.av)[i]? = some v) => hc (j * 12 + i) v ((a i hi).trans hv)
   rw [ea] at ar f
   exact ⟨Bk,e1,⟨⟨A,nn,cap,hnn,ar,f 0 (by decide) _ rfl,f 1 (by decide) _ rfl,f 2 (by decide) _ rfl,f 3 (by decide) _ rfl,f 4 (by decide) _ rfl,f 5 (by decide) _ rfl,f 6 (by decide) _ rfl,f 7 (by decide) _ rfl,f 8 (by decide) _ rfl,f 9 (by decide) _ rfl,f 10 (by decide) _ rfl⟩,hc _ _ b⟩⟩
end Go.Proofs.YtbnpelciceblfaaGreat
