/- PDocE -/
import Derived.Test.YtoopdhgmdjienaaGreatDoorPkR49
namespace Go.Proofs.YtoopdhgmdjienaaGreatDoor
set_option linter.unusedVariables false
set_option maxRecDepth 20000
open Go.ChangeShapes Go.WideShapes Go.ChangeAt Go.RowKit Go.Joins
open Go.ChangeMaps (open_string shut_string)
set_option maxHeartbeats 64000000
def DocAt (w wr:World) (k x B Bz n cc:Nat) (A:Option Addr) (l:List AtN) (j:Nat):Prop :=
 ∃ M d,RepK (B + 1) wr M d ∧ d.kind = (k:Int) ∧ d.xid = (x:Int) ∧ readG (csM 65535 k) zeroP (l.take j) = some d.ps ∧
   Own w wr [blkT B M 51,rowT 77 2 (.slice A n cc) n (cellsA l),blkT Bz zM 51]
theorem rdec_more (s:ByteArray) (w:World) (h0:5 ≤ s.size) (h1:s.size ≤ 16384) {a:UInt8} {r:List UInt8} (hL:s.data.toList = a :: r) {k x:Nat} (hk:a.toNat = k) (k1:1 ≤ k) (k2:k ≤ 46) (hx:readB (r.take 4) = x) {m:List AtN} {c:Nat} (hd:decA [] 0 (s.extract 5 s.size).data.toList = (m,c)) :
 Calls Tryz.prog 21 #[.string s] w fun e w' => DocS w w' e k x m c:=by
 have H0:=(((Own.nil (Wider.refl w)).blk zM 51).blk zM 51)
 have z1:(w.alloc (.cells zM 51)).heap.size = w.heap.size + 1:=by simp
 rw [z1] at H0
 have h2:=H0.head
 obtain ⟨n,hn⟩ : ∃ n,m.length = n:=⟨_,rfl⟩
 have lr:r.length + 1 = s.size:=by rw [size_data,hL]; simp
 have k8:k < 256:=by omega
 have x32:x < 4294967296:=by
  have q:=readB_lt (r.take 4)
  rw [hx,List.length_take,Nat.min_eq_left (by omega)] at q
  exact q
 have c1:¬ (s.size:Int) < 5:=by omega
 have c2:¬ (16384:Int) < (s.size:Int):=by omega
 have s0:s[0]'(by omega) = a:=by
  have e:s[0]'(by omega) = s.data.toList[0]'(by rw [hL]; simp):=rfl
  rw [e]; simp [hL]
 have b0:(s[0]'(by omega)).toNat = k:=by rw [s0,hk]
 have zk:=fun W => rknown_c W k k8 (r:=true) (by simp [k1,k2])
 have zs:(s.extract 5 s.size).size < 1000000:=by rw [size_data,extract_list]; simp; omega
 have zt:=fun W => odec_c (s.extract 5 s.size) W zs hd hn
 have ln:n ≤ 16384:=by
  have q:=decA_few hd
  have q2:(s.extract 5 s.size).size ≤ 16384:=by rw [size_data,extract_list]; simp; omega
  omega
 have SIX:Hid (∀ p,(hp:p < 5) → 1 ≤ p → (s[p]'(by omega)).toNat < 256 ∧ readB (r.take p) = readB (r.take (p - 1)) * 256 + (s[p]'(by omega)).toNat):=by
  show ∀ p,(hp:p < 5) → 1 ≤ p → (s[p]'(by omega)).toNat < 256 ∧ readB (r.take p) = readB (r.take (p - 1)) * 256 + (s[p]'(by omega)).toNat
  intro p hp h1
  refine ⟨UInt8.toNat_lt _,?_⟩
  obtain ⟨j,rfl⟩ : ∃ j,p = j + 1:=⟨p - 1,by omega⟩
  have e:s[j + 1]'(by omega) = s.data.toList[j + 1]'(by rw [hL]; simp; omega):=rfl
  rw [e,Nat.add_sub_cancel,List.take_succ_eq_append_getElem (by omega),readB_snoc]
  congr 2
  simp [hL]
 have SUP:Hid (∀ p,p < 4 → readB (r.take p) < 16777216):=by
  show ∀ p,p < 4 → readB (r.take p) < 16777216
  intro p hp
  have q:=readB_lt (r.take p)
  have e:(r.take p).length = p:=by rw [List.length_take]; omega
  rw [e] at q
  obtain rfl | rfl | rfl | rfl:p = 0 ∨ p = 1 ∨ p = 2 ∨ p = 3:=by omega
  all_goals (refine Nat.lt_of_lt_of_le q ?_; decide)
 have SX:=Lib.hid hx
 have HD:=Lib.hid hd
 have HN:=Lib.hid hn
 have HX:=Lib.hid x32
 clear s0 hd hn hx hk z1 hL x32
 go_enter Tryz.func21,Tryz.ntmps21
 go_upto_region 6 with (first
  | (with_reducible refine wpList_run_val rfl 51 #[(0,.tmp 20)] rfl (ps:=#[(0,.int .u8 (k:Int))]) rfl (buildKind _ _) ?_)
  | (with_reducible refine wpList_store_row rfl 51 (.tmp 4) (.tmp 21) rfl (w.heap.size + 1) (zM.setIfInBounds 0 (.int .u8 (k:Int))) rfl rfl 51 zM h2 (by kernel_rfl) rfl (oneKind _) ?_; obtain ⟨g1,h4⟩:=setRow_facts (zM.setIfInBounds 0 (.int .u8 (k:Int))) h2))
 have H1:=H0.turn (s:=blkT (w.heap.size + 1) (zM.setIfInBounds 0 (.int .u8 (k:Int))) 51) g1 h4 (blk_stable _ _ _) (fun i m => ⟨.inl m,by simp only [List.mem_singleton] at m; subst m; exact (Array.getElem?_eq_some_iff.1 h4).1⟩)
 obtain ⟨W4,hW4⟩ : ∃ W4,World.setRow ((w.alloc (.cells zM 51)).alloc (.cells zM 51)) (w.heap.size + 1) (zM.setIfInBounds 0 (.int .u8 (k:Int))) = W4:=⟨_,rfl⟩
 rw [hW4] at H1
 rw [hW4]
 obtain ⟨Bz,hBz⟩ : ∃ Bz,w.heap.size = Bz:=⟨_,rfl⟩
 rw [hBz] at H1
 rw [hBz]
 have hBz0:Hid (w.heap.size ≤ Bz):=Lib.hid (by omega)
 clear hW4 hBz g1 h4 h2 H0 b0
 have q0:=blk_cell H1.head 0 (v:=.int .u8 (k:Int)) rfl
 go_upto_region 8 with (first
  | (with_reducible refine wpList_field rfl 51 (.tmp 4) 0 rfl (Bz + 1) 0 0 rfl (fieldM0 _) ?_)
  | (go_at_call 27; (with_reducible refine (zk _).mono ?_); rintro e w1 ⟨rfl,g2⟩; have H2:=H1.quiet g2))
 clear q0 H1 zk g2
 go_wp2
 go_loopw [5] (fun i wr => ∃ j:Nat,j ≤ 4 ∧ i = .int .i64 ((j:Int) + 1) ∧ Hid (Own w wr [blkT (Bz + 1) (headM k (readB (r.take j))) 51,blkT Bz zM 51])) (fun i _ => 5 - (intOf i).toNat)
 case atStart => exact ⟨0,by omega,by simp,H2⟩
 case round =>
  obtain ⟨j,hj,hi,HH⟩:=hrel
  clear H2
  obtain ⟨V,hV⟩ : ∃ V,readB (r.take j) = V:=⟨_,rfl⟩
  rw [hV] at HH
  have hc:=blk_cell HH.out.head 1 (v:=.int .u32 (V:Int)) rfl
  have hf:=blk_free HH.out.head 1
  by_cases cj:j < 4
  · obtain ⟨p,hp⟩ : ∃ p:Nat,(j:Int) + 1 = (p:Int):=⟨j + 1,by omega⟩
    have p5:p < 5:=by omega
    have ps:p < s.size:=Nat.lt_of_lt_of_le p5 h0
    have ⟨y8,yn⟩:=SIX.out p p5 (by omega)
    have v24:=SUP.out j cj
    rw [hV] at v24
    have YN:Hid (readB (r.take (j + 1)) = V * 256 + (s[p]'(by omega)).toNat):=by
     show _ = _
     rw [show j + 1 = p by omega,yn,show p - 1 = j by omega,hV]
    have j1:(p:Int) < 5:=by omega
    have p0:(0:Int) ≤ (p:Int):=by omega
    have p1:(p:Int) < (s.size:Int):=by omega
    have wp:IntKind.i64.wrap ((p:Int) + 1) = (p:Int) + 1:=by rw [IntKind.wrap_i64]; omega
    have wv:IntKind.u32.wrap ((V:Int) * 256) = (V:Int) * 256:=by rw [IntKind.wrap_u32]; omega
    have ws:IntKind.u32.wrap ((s[p]'ps).toNat:Int) = ((s[p]'ps).toNat:Int):=by rw [IntKind.wrap_u32]; omega
    have wa:IntKind.u32.wrap ((V:Int) * 256 + ((s[p]'ps).toNat:Int)) = ((V * 256 + (s[p]'ps).toNat:Nat):Int):=by rw [IntKind.wrap_u32]; omega
    have PJ:Hid ((p:Int) + 1 = ((j + 1:Nat):Int) + 1):=Lib.hid (by omega)
    rw [hp] at hi
    clear hV yn hp
    subst hi
    go_upto_region 11 with (fail)
    go_still_tail 9,(by kernel_rfl)
    change wpList _ _ _ _ _ wr.drew
    have H2:=HH.out.quiet (Wider.refl wr).drew
    have hf2:=blk_free H2.head 1
    have hc2:=blk_cell H2.head 1 (v:=.int .u32 (V:Int)) rfl
    have H3:=H2.store 1 (.int .u32 ((V * 256 + (s[p]'ps).toNat:Nat):Int))
    rw [headM_set] at H3
    have H4:=Lib.hid H3
    clear H2 H3 hc hf
    go_wp2
    go_roundw
    case rel => exact ⟨j + 1,by omega,by rw [← PJ.out],by rw [YN.out]; exact H4.out⟩
    case measure => simp [intOf]; omega
  · obtain rfl:j = 4:=by omega
    have hV4:V = x:=by rw [← hV]; exact SX.out
    subst hV4
    subst hi
    clear hc hf hV SIX SUP
    by_cases hc:c = 0
    · subst hc
      go_upto_region 15 with (first
       | (go_at_call 31; (with_reducible refine (zt _).mono ?_); rintro e w2 ⟨A,cc,rfl,g2,ho⟩; have H3:=(HH.out.row g2 ho).perm (.swap _ _ _); clear ho))
      obtain ⟨B,hB⟩ : ∃ B,Bz + 1 = B:=⟨_,rfl⟩
      rw [hB] at H3
      rw [hB]
      have hBB:Hid (Bz < B):=Lib.hid (by omega)
      have HV:=HX
      clear zt HH g2 hB
      go_wp2
      go_loopw [8] (fun i wr => ∃ j:Nat,j ≤ n ∧ i = .int .i64 (j:Int) ∧ Hid (DocAt w wr k V B Bz n cc A m j)) (fun i _ => n - (intOf i).toNat)
      case atStart => exact ⟨0,by omega,by simp,headM k V,headD k V,fun W _ => headM_rep W k V k8 HV.out,rfl,rfl,rfl,H3⟩
      case round =>
       obtain ⟨j,hj,hi,HA⟩:=hrel
       obtain ⟨M,d,hR,hdk,hdx,hrd,H⟩:=HA.out
       clear H3
       by_cases cj:j < n
       · have j0:(0:Int) ≤ (j:Int):=by omega
         have j1:(j:Int) < (n:Int):=by omega
         obtain ⟨y,hy⟩:=next_some m j (by rw [HN.out]; exact cj)
         obtain ⟨A',cp',ea,ha,_⟩:=atsAt_own H.second
         injection ea with ea1 ea2 ea3
         subst ea1 ea3
         cases A with
         | none => exact absurd (ha.none_ rfl) (by intro e; rw [e] at hy; simp at hy)
         | some a =>
           have hA:=ha.cell a rfl j y hy
           have hty:y.t < 256:=okA_small HD.out hy
           have hsz:=okA_sizes m 0 (decA_okA HD.out) y (List.mem_of_getElem? hy)
           have HNX:=Lib.hid (readG_next hrd hy)
           have HST:=Lib.hid (fun e => readG_stuck hrd hy e)
           have HT1:=Lib.hid (okA_pos (decA_okA HD.out) hy)
           clear hy ha
           obtain ⟨t,q⟩:=y
           have ⟨q0,q1⟩:=hA
           have q2:=hA.flat
           have HQ:=Lib.hid hA
           simp only at q0 q1 q2 hty hsz
           clear hrd HA
           have HB:=Lib.hid H.head
           have sM:=hR.here.size
           subst hi
           go_upto_region 18 with (fail)
           refine gen_act (Φ:=fun a => (Code.region 18 _ true).wp Tryz.prog _ a _) _ ?_
           intro a0 ha0
           have z0:a0.tmps.size = 81:=by rw [ha0]; rfl
           have z4:a0.eval (.tmp 4) = .pointer (some ⟨B,0,none⟩):=by rw [ha0]; rfl
           have z6:a0.eval (.tmp 6) = .slice (some a) n cc:=by rw [ha0]; rfl
           have z8:a0.eval (.tmp 8) = .int .i64 (j:Int):=by rw [ha0]; rfl
           have HA0:=Lib.hid ha0
           have hPP:∀ W,Wider wr W → Keeps (B + 1) wr W:=fun W g => g.keeps _
           have hRR:∀ W,Keeps (B + 1) wr W → RepD W M d:=hR
           have hq8:q.size ≤ 65535:=hsz.1
           have ht1:1 ≤ t:=HT1.out
           clear ha0
           refine wp_region_inv (MemAt 12 [57,58,59,60,61,62,56,63,64,9,10] [(0,57,.agg M),(1,58,.slice (some a) n cc),(2,59,.int .i64 (j:Int)),(3,60,.pointer (some (a.add (j * 2)))),(4,61,.agg #[.int .u8 (t:Int),.string q])] (MemD (Keeps (B + 1) wr) wr d (partT t) q) a0) (by kernel_rfl) ?_ ?_ ?_
           · intro listed a' W hI he
             have ha:=all_done (md:=.any) (hI.size.trans rfl) (by kernel_rfl) he
             obtain ⟨w0,w1',b9,M2,d2,bb,e62,e56,e63,e64,e9,e10,gw,R2,dec,g,kp,hw9,h9⟩:=hI.mem.all ha
             have fr:=(hI.stays.frameL (vs:=[(57,.agg M),(58,.slice (some a) n cc),(59,.int .i64 (j:Int)),(60,.pointer (some (a.add (j * 2)))),(61,.agg #[.int .u8 (t:Int),.string q]),(62,.tuple #[.agg M2,.bool bb]),(56,.tuple #[.agg M2,.bool bb]),(63,.agg M2),(64,.bool bb),(9,.pointer (some ⟨b9,0,none⟩)),(10,.bool bb)]) HA0.out (.cons (hI.at (j:=0) (d:=57) (u:=.agg M) (by simp) (ha 0 (by show 0 < 12; decide))) (.cons (hI.at (j:=1) (d:=58) (u:=.slice (some a) n cc) (by simp) (ha 1 (by show 1 < 12; decide))) (.cons (hI.at (j:=2) (d:=59) (u:=.int .i64 (j:Int)) (by simp) (ha 2 (by show 2 < 12; decide))) (.cons (hI.at (j:=3) (d:=60) (u:=.pointer (some (a.add (j * 2)))) (by simp) (ha 3 (by show 3 < 12; decide))) (.cons (hI.at (j:=4) (d:=61) (u:=.agg #[.int .u8 (t:Int),.string q]) (by simp) (ha 4 (by show 4 < 12; decide))) (.cons e62 (.cons e56 (.cons e63 (.cons e64 (.cons e9 (.cons e10 (.nil)))))))))))) (show [57,58,59,60,61,62,56,63,64,9,10].Nodup from by decide) (by simp)).trans (act_lit2 (us:=[_,_,_,_,_,_,_,_,_,_,_,_,_,_,_,_,_,_,_,_,_,_,_,_,_,_,_,_,_,_,_,_,_,_,_,_,_,_,_,_,_,_,_,_,_,_,_,_,_,_,_,_,_,_,_,_,_,_,_,_,_,_,_,_,_,_,_,_,_,_,_,_,_,_,_,_,_,_,_,_,_]) rfl)
             rw [fr]
             have hc0:=hR.here.c0
             rw [hdk] at hc0
             have hBW:=wide_blk HB.out g
             have qk:∀ x:After W,x.w.cell? ⟨B,0,none⟩ = some (.int .u8 (k:Int)):=fun x => blk_cell (wide_blk hBW x.h) 0 hc0
             have qt:∀ x:After W,x.w.cell? (a.add (j * 2)) = some (.int .u8 (t:Int)):=fun x => wkeep (g.trans x.h) q0
             have hzW:=wide_blk H.drop.second g
             have GW:=Lib.hid (H.wider.trans g)
             clear fr e62 e56 e63 e64 e9 e10 ha hI he z0 z4 z6 z8 HA0 hPP hRR hw9 q0 q1 q2 hA HQ hc0
             by_cases ht:t ∈ hasL k
             · have zof:=fun W => of_c W k t k8 hty (r:=true) (by simp [ht])
               obtain ⟨t1,t2⟩:=hasL_between k8 ht
               have sy:=stepM_yes k8 (ps:=d.ps) (a:=⟨t,q⟩) ht
               have pt:partT t = t - 1:=if_pos t2
               rw [pt] at dec
               cases bb with
               | false =>
                 have NOX:Hid (readG (csM 65535 k) zeroP m = none):=HST.out (by
                  rcases dec with ⟨p,_,e,_⟩ | ⟨e,_⟩
                  · cases e
                  · rw [sy,e]; rfl)
                 clear dec sy hR hdk hdx R2 kp gw H HST HNX h9 hBW
                 go_upto_region 19 with (fail)
                 refine wp_region_after (by kernel_rfl) (by kernel_rfl) (Wider.refl W) ?_
                 repeat (go_big_quiet_step (first | (go_at_call 42; with_reducible exact quiet_after (zof _))))
                 refine wpQuiet_nil ?_
                 rintro _ ⟨y9,rfl⟩
                 have hzY:=wide_blk hzW y9.h
                 have gY:=GW.out.trans y9.h
                 clear qk qt zof
                 go_wp2_with (first
                  | (with_reducible refine wpList_run_val rfl 51 #[] rfl (ps:=#[]) rfl (build0 _) ?_)
                  | (with_reducible refine wpList_store_row rfl 51 (.tmp 2) (.tmp 78) rfl Bz zM rfl rfl 51 zM hzY (by kernel_rfl) rfl zM_all ?_; obtain ⟨g6,h6⟩:=setRow_facts zM hzY))
                 have hl:=run_loadVar_row (P:=Tryz.prog) _ Bz 51 51 _ (0,0) _ h6 Tryz.underlying51 rfl (by kernel_rfl)
                 have W6:=g6.wider gY (by intro i m; simp only [List.mem_singleton] at m; subst m; exact hBz0.out)
                 simp [bodyPost,results,Tryz.results21,asAddr,hl]
                 exact .inr (.inl ⟨rfl,NOX.out,_,_,rfl,W6,(zM_repK 0 _).here,rfl,rfl,rfl⟩)
               | true =>
                 obtain ⟨p,hdec,rfl⟩ : ∃ p,(partC 65535 (t - 1)).dec q = some p ∧ d2 = d.setN (t - 1) p:=by
                  rcases dec with ⟨p,e1,_,e2⟩ | ⟨_,e⟩
                  · exact ⟨p,e1,e2⟩
                  · cases e
                 obtain ⟨sp,sk,sx⟩:=setN_dec d (t - 1) (by omega) hdec
                 have YES:Hid (readG (csM 65535 k) zeroP (m.take (j + 1)) = some (d.setN (t - 1) p).ps):=by
                  show _ = _
                  rw [HNX.out,sy,hdec,sp]; rfl
                 have HK2:Hid ((d.setN (t - 1) p).kind = (k:Int) ∧ (d.setN (t - 1) p).xid = (V:Int)):=⟨sk.trans hdk,sx.trans hdx⟩
                 clear dec sy sp sk sx hdec hR hdk hdx HST HNX
                 go_upto_region 19 with (fail)
                 refine wp_region_after (by kernel_rfl) (by kernel_rfl) (Wider.refl W) ?_
                 repeat (go_big_quiet_step (first | (go_at_call 42; with_reducible exact quiet_after (zof _))))
                 refine wpQuiet_nil ?_
                 rintro _ ⟨y9,rfl⟩
                 have h9Y:=wide_blk h9 y9.h
                 have hBY:=wide_blk hBW y9.h
                 have gY:=g.trans y9.h
                 have HY:=Lib.hid (H.quiet gY)
                 have KY:=Lib.hid (kp.trans (y9.h.keeps _))
                 have s2:=(R2 W (g.keeps _) kp).size
                 have o2:=(R2 W (g.keeps _) kp).one
                 have HRR:=Lib.hid R2
                 have HBL:=Lib.hid (Nat.le_trans (Nat.succ_le_of_lt (Array.getElem?_eq_some_iff.1 HB.out).1) gw.2)
                 clear qk qt zof R2 hzW GW
                 go_wp2_with (first
                  | (with_reducible refine wpList_load_row rfl 51 (.tmp 9) rfl b9 rfl 51 M2 (0,0) _ h9Y Tryz.underlying51 rfl (by rw [s2]; kernel_rfl) ?_)
                  | (with_reducible refine wpList_store_row rfl 51 (.tmp 4) (.tmp 79) rfl B M2 rfl rfl 51 M hBY (by rw [s2]; kernel_rfl) (by rw [s2]; exact sM) o2 ?_; obtain ⟨g5,h5⟩:=setRow_facts M2 hBY))
                 have H6:=HY.out.turn (s:=blkT B M2 51) g5 h5 (blk_stable _ _ _) (fun i m => ⟨.inl m,by simp only [List.mem_singleton] at m; subst m; exact (Array.getElem?_eq_some_iff.1 h5).1⟩)
                 have RK:RepK (B + 1) _ M2 (d.setN (t - 1) p):=fun W' kp' => HRR.out W' ((gY.keeps (B + 1)).trans ((g5.keeps (Nat.lt_succ_self B)).trans kp')) (KY.out.trans ((g5.keeps HBL.out).trans (kp'.less HBL.out)))
                 go_roundw
                 case rel => exact ⟨j + 1,by omega,by go_num,M2,d.setN (t - 1) p,RK,HK2.out.1,HK2.out.2,YES.out,H6⟩
                 case measure => simp [intOf]; omega
             · have zof:=fun W => of_c W k t k8 hty (r:=false) (by simp [ht])
               have NOX:Hid (readG (csM 65535 k) zeroP m = none):=HST.out (stepM_no hsz.2 ht)
               clear dec hR hdk hdx R2 kp gw H HST HNX h9 hBW
               go_upto_region 19 with (fail)
               refine wp_region_after (by kernel_rfl) (by kernel_rfl) (Wider.refl W) ?_
               repeat (go_big_quiet_step (first | (go_at_call 42; with_reducible exact quiet_after (zof _))))
               refine wpQuiet_nil ?_
               rintro _ ⟨y9,rfl⟩
               have hzY:=wide_blk hzW y9.h
               have gY:=GW.out.trans y9.h
               clear qk qt zof
               go_wp2_with (first
                | (with_reducible refine wpList_run_val rfl 51 #[] rfl (ps:=#[]) rfl (build0 _) ?_)
                | (with_reducible refine wpList_store_row rfl 51 (.tmp 2) (.tmp 78) rfl Bz zM rfl rfl 51 zM hzY (by kernel_rfl) rfl zM_all ?_; obtain ⟨g6,h6⟩:=setRow_facts zM hzY))
               have hl:=run_loadVar_row (P:=Tryz.prog) _ Bz 51 51 _ (0,0) _ h6 Tryz.underlying51 rfl (by kernel_rfl)
               have W6:=g6.wider gY (by intro i m; simp only [List.mem_singleton] at m; subst m; exact hBz0.out)
               simp [bodyPost,results,Tryz.results21,asAddr,hl]
               exact .inr (.inl ⟨rfl,NOX.out,_,_,rfl,W6,(zM_repK 0 _).here,rfl,rfl,rfl⟩)
           · intro listed a' W i hI hi
             have hlt:i < 12:=by
              obtain ⟨_,o,ho,_⟩:=mem_ready.1 hi
              exact (Array.getElem?_eq_some_iff.1 ho).1
             have gW:=hI.mem.wide
             have y4:=(hI.stays.2.2 4 (by decide)).trans z4
             have y6:=(hI.stays.2.2 6 (by decide)).trans z6
             have y8:=(hI.stays.2.2 8 (by decide)).trans z8
             obtain rfl | rfl | rfl | rfl | rfl | rfl | rfl | rfl | rfl | rfl | rfl | rfl:i = 0 ∨ i = 1 ∨ i = 2 ∨ i = 3 ∨ i = 4 ∨ i = 5 ∨ i = 6 ∨ i = 7 ∨ i = 8 ∨ i = 9 ∨ i = 10 ∨ i = 11:=by omega
             ·
              exact wpOp_of (o:=_) rfl (wanted_plain rfl) (wp_val (exec_whole 51 (.tmp 4) rfl B y4 _ (wide_blk HB.out gW) Tryz.underlying51 rfl (by rw [sM]; kernel_rfl)) (hI.step (i:=0) (d:=57) (u:=.agg M) (W':=W) (by decide) (by rw [z0]; decide) (by decide) (by intro j' e' x' h'; simp only [List.mem_cons,List.not_mem_nil,or_false,Prod.mk.injEq] at h'; rcases h' with ⟨rfl,rfl,rfl⟩ | ⟨rfl,rfl,rfl⟩ | ⟨rfl,rfl,rfl⟩ | ⟨rfl,rfl,rfl⟩ | ⟨rfl,rfl,rfl⟩ <;> simp) (fun b' s' hb _ hs _ => hI.mem.same (by decide) (by decide) hb hs)))
             ·
              exact wpOp_of (o:=_) rfl (wanted_plain rfl) (wp_val (exec_move rfl y6) (hI.step (i:=1) (d:=58) (u:=.slice (some a) n cc) (W':=W) (by decide) (by rw [z0]; decide) (by decide) (by intro j' e' x' h'; simp only [List.mem_cons,List.not_mem_nil,or_false,Prod.mk.injEq] at h'; rcases h' with ⟨rfl,rfl,rfl⟩ | ⟨rfl,rfl,rfl⟩ | ⟨rfl,rfl,rfl⟩ | ⟨rfl,rfl,rfl⟩ | ⟨rfl,rfl,rfl⟩ <;> simp) (fun b' s' hb _ hs _ => hI.mem.same (by decide) (by decide) hb hs)))
             ·
              exact wpOp_of (o:=_) rfl (wanted_plain rfl) (wp_val (exec_move rfl y8) (hI.step (i:=2) (d:=59) (u:=.int .i64 (j:Int)) (W':=W) (by decide) (by rw [z0]; decide) (by decide) (by intro j' e' x' h'; simp only [List.mem_cons,List.not_mem_nil,or_false,Prod.mk.injEq] at h'; rcases h' with ⟨rfl,rfl,rfl⟩ | ⟨rfl,rfl,rfl⟩ | ⟨rfl,rfl,rfl⟩ | ⟨rfl,rfl,rfl⟩ | ⟨rfl,rfl,rfl⟩ <;> simp) (fun b' s' hb _ hs _ => hI.mem.same (by decide) (by decide) hb hs)))
             ·
              have y58:=evalD (hI.at (j:=1) (d:=58) (u:=.slice (some a) n cc) (by simp) (ready_pred hi rfl 1 (by rfl)))
              have y59:=evalD (hI.at (j:=2) (d:=59) (u:=.int .i64 (j:Int)) (by simp) (ready_pred hi rfl 2 (by rfl)))
              refine wpOp_of (o:=_) rfl (wanted_plain rfl) (wp_k (a':=a'.put (some 60) (.pointer (some (a.add (j * 2))))) (w':=W) (hI.step (i:=3) (d:=60) (u:=.pointer (some (a.add (j * 2)))) (W':=W) (by decide) (by rw [z0]; decide) (by decide) (by intro j' e' x' h'; simp only [List.mem_cons,List.not_mem_nil,or_false,Prod.mk.injEq] at h'; rcases h' with ⟨rfl,rfl,rfl⟩ | ⟨rfl,rfl,rfl⟩ | ⟨rfl,rfl,rfl⟩ | ⟨rfl,rfl,rfl⟩ | ⟨rfl,rfl,rfl⟩ <;> simp) (fun b' s' hb _ hs _ => hI.mem.same (by decide) (by decide) hb hs)) ?_)
              intro K' hK'
              go_simp
              exact hK'
             ·
              have y60:=evalD (hI.at (j:=3) (d:=60) (u:=.pointer (some (a.add (j * 2)))) (by simp) (ready_pred hi rfl 3 (by rfl)))
              have p0:=wkeep gW q0
              have p2:=wkeep gW q2
              refine wpOp_of (o:=_) rfl (wanted_plain rfl) (wp_k (a':=a'.put (some 61) (.agg #[.int .u8 (t:Int),.string q])) (w':=W) (hI.step (i:=4) (d:=61) (u:=.agg #[.int .u8 (t:Int),.string q]) (W':=W) (by decide) (by rw [z0]; decide) (by decide) (by intro j' e' x' h'; simp only [List.mem_cons,List.not_mem_nil,or_false,Prod.mk.injEq] at h'; rcases h' with ⟨rfl,rfl,rfl⟩ | ⟨rfl,rfl,rfl⟩ | ⟨rfl,rfl,rfl⟩ | ⟨rfl,rfl,rfl⟩ | ⟨rfl,rfl,rfl⟩ <;> simp) (fun b' s' hb _ hs _ => hI.mem.same (by decide) (by decide) hb hs)) ?_)
              intro K' hK'
              go_simp
              exact hK'
             ·
              have y57:=hI.at (j:=0) (d:=57) (u:=.agg M) (by simp) (ready_pred hi rfl 0 (by rfl))
              have y61:=hI.at (j:=4) (d:=61) (u:=.agg #[.int .u8 (t:Int),.string q]) (by simp) (ready_pred hi rfl 4 (by rfl))
              refine wpOp_of (o:=_) rfl (wanted_plain rfl) (wp_enter (f:=41) (args:=#[.agg M,.agg #[.int .u8 (t:Int),.string q]]) (exec_call rfl (args2 y57 y61) (by kernel_rfl)) ?_)
              refine (hI.mem.call (ready_own hi) hPP hRR hq8 ht1 rfl).mono ?_
              rintro e w' ⟨u,rfl,hm'⟩
              exact ⟨u,rfl,(hI.step (i:=5) (d:=62) (u:=u) (W':=w') (by decide) (by rw [z0]; decide) (by decide) (by intro j' e' x' h'; simp only [List.mem_cons,List.not_mem_nil,or_false,Prod.mk.injEq] at h'; rcases h' with ⟨rfl,rfl,rfl⟩ | ⟨rfl,rfl,rfl⟩ | ⟨rfl,rfl,rfl⟩ | ⟨rfl,rfl,rfl⟩ | ⟨rfl,rfl,rfl⟩ <;> simp) hm')⟩
             ·
              exact wpOp_of (o:=_) rfl (wanted_plain rfl) (wp_val (exec_move rfl rfl) (hI.step (i:=6) (d:=56) (u:=a'.eval (.tmp 62)) (W':=W) (by decide) (by rw [z0]; decide) (by decide) (by intro j' e' x' h'; simp only [List.mem_cons,List.not_mem_nil,or_false,Prod.mk.injEq] at h'; rcases h' with ⟨rfl,rfl,rfl⟩ | ⟨rfl,rfl,rfl⟩ | ⟨rfl,rfl,rfl⟩ | ⟨rfl,rfl,rfl⟩ | ⟨rfl,rfl,rfl⟩ <;> simp) (fun b' s' hb _ hs hs2 => hI.mem.move (ready_pred hi rfl 5 (by rfl)) hb hs hs2)))
             ·
              obtain ⟨M2,bb,e56,hm'⟩:=hI.mem.first (ready_pred hi rfl 6 (by rfl))
              have y56:=evalD e56
              refine wpOp_of (o:=_) rfl (wanted_plain rfl) (wp_k (a':=a'.put (some 63) (.agg M2)) (w':=W) (hI.step (i:=7) (d:=63) (u:=.agg M2) (W':=W) (by decide) (by rw [z0]; decide) (by decide) (by intro j' e' x' h'; simp only [List.mem_cons,List.not_mem_nil,or_false,Prod.mk.injEq] at h'; rcases h' with ⟨rfl,rfl,rfl⟩ | ⟨rfl,rfl,rfl⟩ | ⟨rfl,rfl,rfl⟩ | ⟨rfl,rfl,rfl⟩ | ⟨rfl,rfl,rfl⟩ <;> simp) hm') ?_)
              intro K' hK'
              go_simp
              exact hK'
             ·
              obtain ⟨M2,bb,e56,hm'⟩:=hI.mem.last (ready_pred hi rfl 6 (by rfl))
              have y56:=evalD e56
              refine wpOp_of (o:=_) rfl (wanted_plain rfl) (wp_k (a':=a'.put (some 64) (.bool bb)) (w':=W) (hI.step (i:=8) (d:=64) (u:=.bool bb) (W':=W) (by decide) (by rw [z0]; decide) (by decide) (by intro j' e' x' h'; simp only [List.mem_cons,List.not_mem_nil,or_false,Prod.mk.injEq] at h'; rcases h' with ⟨rfl,rfl,rfl⟩ | ⟨rfl,rfl,rfl⟩ | ⟨rfl,rfl,rfl⟩ | ⟨rfl,rfl,rfl⟩ | ⟨rfl,rfl,rfl⟩ <;> simp) hm') ?_)
              intro K' hK'
              go_simp
              exact hK'
             ·
              refine wpOp_of (o:=_) rfl (wanted_plain rfl) (wp_k (a':=a'.put (some 9) (.pointer (some ⟨W.heap.size,0,none⟩))) (w':=W.alloc (.cells zM 51)) (hI.step (i:=9) (d:=9) (u:=.pointer (some ⟨W.heap.size,0,none⟩)) (W':=W.alloc (.cells zM 51)) (by decide) (by rw [z0]; decide) (by decide) (by intro j' e' x' h'; simp only [List.mem_cons,List.not_mem_nil,or_false,Prod.mk.injEq] at h'; rcases h' with ⟨rfl,rfl,rfl⟩ | ⟨rfl,rfl,rfl⟩ | ⟨rfl,rfl,rfl⟩ | ⟨rfl,rfl,rfl⟩ | ⟨rfl,rfl,rfl⟩ <;> simp) (fun b' s' hb _ hs hs2 => hI.mem.make (ready_own hi) hb hs hs2)) ?_)
              intro K' hK'
              go_simp
              exact hK'
             ·
              obtain ⟨b9,M2,e9,e63,s2,o2,h9,hm'⟩:=hI.mem.store hPP (ready_pred hi rfl 9 (by rfl)) (ready_pred hi rfl 7 (by rfl)) (ready_own hi)
              refine wpOp_of (o:=_) rfl (wanted_plain rfl) (wp_store_row 51 (.tmp 9) (.tmp 63) rfl b9 M2 e9 e63 51 zM h9 (by rw [s2]; kernel_rfl) (by rw [s2]; exact zM_size) o2 ?_)
              exact hI.turn (i:=10) (by decide) (by intro j' e' x' h'; simp only [List.mem_cons,List.not_mem_nil,or_false,Prod.mk.injEq] at h'; rcases h' with ⟨rfl,rfl,rfl⟩ | ⟨rfl,rfl,rfl⟩ | ⟨rfl,rfl,rfl⟩ | ⟨rfl,rfl,rfl⟩ | ⟨rfl,rfl,rfl⟩ <;> simp) hm'
             ·
              obtain ⟨bb,e64,hm'⟩:=hI.mem.assign (ready_pred hi rfl 8 (by rfl))
              exact wpOp_of (o:=_) rfl (wanted_plain rfl) (wp_val (exec_assign rfl e64) (hI.step (i:=11) (d:=10) (u:=.bool bb) (W':=W) (by decide) (by rw [z0]; decide) (by decide) (by intro j' e' x' h'; simp only [List.mem_cons,List.not_mem_nil,or_false,Prod.mk.injEq] at h'; rcases h' with ⟨rfl,rfl,rfl⟩ | ⟨rfl,rfl,rfl⟩ | ⟨rfl,rfl,rfl⟩ | ⟨rfl,rfl,rfl⟩ | ⟨rfl,rfl,rfl⟩ <;> simp) hm'))
           · exact ⟨by simp,.refl _ _,fun j d u _ hl => absurd hl (by rw [Array.getD_eq_getD_getElem?]; simp [Array.getElem?_replicate]; split <;> simp),.pre (fun j _ _ => by rw [Array.getD_eq_getD_getElem?]; simp [Array.getElem?_replicate]; split <;> simp) (Wider.refl wr).drew (fun x => absurd x (by rw [Array.getD_eq_getD_getElem?]; simp))⟩
       · obtain rfl:j = n:=by omega
         rw [List.take_of_length_le (by have:=HN.out; omega)] at hrd
         subst hi
         have sM:=hR.here.size
         have oM:=hR.here.one
         have hB:=H.head
         have hz:=H.drop.second
         have hw:=H.wider
         have j1:¬ (j:Int) < (j:Int):=by omega
         have HRD:=Lib.hid (And.intro hrd (And.intro hdk hdx))
         have HHR:=Lib.hid hR
         clear H hR hrd hdk hdx HA
         go_wp2_with (first
          | (with_reducible refine wpList_load_row rfl 51 (.tmp 4) rfl B rfl 51 M (0,0) _ hB Tryz.underlying51 rfl (by rw [sM]; kernel_rfl) ?_)
          | (with_reducible refine wpList_store_row rfl 51 (.tmp 2) (.tmp 80) rfl Bz M rfl rfl 51 zM hz (by rw [sM]; kernel_rfl) (by rw [sM]; exact zM_size) oM ?_; obtain ⟨g6,h6⟩:=setRow_facts M hz))
         have hl:=run_loadVar_row (P:=Tryz.prog) _ Bz 51 51 _ (0,0) _ h6 Tryz.underlying51 rfl (by rw [sM]; kernel_rfl)
         have W6:=g6.wider hw (by intro i m; simp only [List.mem_singleton] at m; subst m; exact hBz0.out)
         have R6:=HHR.out _ (g6.keeps (Nat.lt_succ_of_lt hBB.out))
         have q:=HRD.out
         simp [bodyPost,results,Tryz.results21,asAddr,hl]
         exact .inl ⟨rfl,_,q.1,_,_,rfl,W6,R6,q.2.1,q.2.2,rfl⟩
    · have e0:((c:Int) == 0) = false:=by rw [beq_eq_false_iff_ne]; omega
      have hz:=HH.out.second
      have hw:=HH.out.wider
      have HC:=Lib.hid hc
      clear hc HH
      go_wp2_with (first
       | (go_at_call 31; (with_reducible refine (zt _).mono ?_); rintro e w2 ⟨A,cc,rfl,g2,_⟩; have hz2:=wide_blk hz g2; have hw2:=hw.trans g2)
       | (with_reducible refine wpList_run_val rfl 51 #[] rfl (ps:=#[]) rfl (build0 _) ?_)
       | (with_reducible refine wpList_store_row rfl 51 (.tmp 2) (.tmp 48) rfl Bz zM rfl rfl 51 zM hz2 (by kernel_rfl) rfl zM_all ?_; obtain ⟨g6,h6⟩:=setRow_facts zM hz2))
      have hl:=run_loadVar_row (P:=Tryz.prog) _ Bz 51 51 _ (0,0) _ h6 Tryz.underlying51 rfl (by kernel_rfl)
      have W6:=g6.wider hw2 (by intro i m; simp only [List.mem_singleton] at m; subst m; exact hBz0.out)
      simp [bodyPost,results,Tryz.results21,asAddr,hl]
      exact .inr (.inr ⟨HC.out,_,_,rfl,W6,(zM_repK 0 _).here,rfl,rfl,rfl⟩)
theorem DocR.of {w w':World} {e:Ending} {k x:Nat} {ps:List PartN} {r:Nat} {p:(Nat × Nat × List PartN) × Nat} (h:DocR w w' e k x ps r) (hp:p = ((k,x,ps),r)):DocR w w' e p.1.1 p.1.2.1 p.1.2.2 p.2:=by rw [hp]; exact h
theorem rdecode_c (s:ByteArray) (w:World) (hs:s.size < 1000000) :
 Calls Tryz.prog 21 #[.string s] w fun e w' => DocR w w' e (decM s.data.toList).1.1 (decM s.data.toList).1.2.1 (decM s.data.toList).1.2.2 (decM s.data.toList).2:=by
 have hl:s.data.toList.length = s.size:=(size_data s).symm
 by_cases h5:s.size < 5
 · exact (rdec_short s w h5).mono fun e w' h => h.of (by unfold decM; rw [if_pos (by omega)])
 by_cases h6:16384 < s.size
 · exact (rdec_long s w h6 hs).mono fun e w' h => h.of (by unfold decM; rw [if_neg (by omega),if_pos (by omega)])
 obtain ⟨a,r,hL⟩ : ∃ a r,s.data.toList = a :: r:=by
  cases e:s.data.toList with
  | nil => rw [e] at hl; simp at hl; omega
  | cons a r => exact ⟨a,r,rfl⟩
 have hk:=UInt8.toNat_lt a
 have hY:(s.extract 5 s.size).data.toList = s.data.toList.drop 5:=by
  rw [extract_list,List.take_of_length_le (by omega)]
 have hh:(s.data.toList.headD 0).toNat = a.toNat:=by rw [hL]; rfl
 by_cases kn:1 ≤ a.toNat ∧ a.toNat ≤ 46
 · obtain ⟨m,c,hd⟩ : ∃ m c,decA [] 0 (s.extract 5 s.size).data.toList = (m,c):=⟨_,_,rfl⟩
   have hd2:=hd
   rw [hY] at hd2
   refine (rdec_more s w (by omega) (by omega) hL rfl kn.1 kn.2 rfl hd).mono fun e w' h => ?_
   rcases h with ⟨hc,ps,hp,h⟩ | ⟨hc,hp,h⟩ | ⟨hc,h⟩
   · subst hc
     have e:decG (csM 65535 a.toNat) (s.data.toList.drop 5) = (ps,0):=by unfold decG; rw [hd2,zeroG_csM]; simp only [if_true]; rw [hp]
     refine h.of ?_
     unfold decM
     rw [if_neg (by omega),if_neg (by omega)]
     dsimp only
     rw [hh,if_neg (by omega),e,if_pos rfl,hL]
     rfl
   · subst hc
     have e:decG (csM 65535 a.toNat) (s.data.toList.drop 5) = (zeroP,3):=by unfold decG; rw [hd2,zeroG_csM]; simp only [if_true]; rw [hp]
     refine h.of ?_
     unfold decM
     rw [if_neg (by omega),if_neg (by omega)]
     dsimp only
     rw [hh,if_neg (by omega),e,if_neg (by decide)]
   · have e:decG (csM 65535 a.toNat) (s.data.toList.drop 5) = (zeroP,c):=by unfold decG; rw [hd2,zeroG_csM]; dsimp only; rw [if_neg hc]
     refine h.of ?_
     unfold decM
     rw [if_neg (by omega),if_neg (by omega)]
     dsimp only
     rw [hh,if_neg (by omega),e,if_neg hc]
 · refine (rdec_kind s w (by omega) (by omega) hL rfl hk kn).mono fun e w' h => h.of ?_
   unfold decM
   rw [if_neg (by omega),if_neg (by omega)]
   dsimp only
   rw [hh,if_pos (by omega)]
end Go.Proofs.YtoopdhgmdjienaaGreatDoor
