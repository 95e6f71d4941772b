/- OListKey OKindTable OTopTable -/
import Derived.Test.YtoopdhgmdjienaaGreatDoorPkR13
namespace Go.Proofs.YtoopdhgmdjienaaGreatDoor
set_option linter.unusedVariables false
set_option maxRecDepth 20000
open Go.ChangeShapes Go.WideShapes Go.ChangeAt Go.RowKit Go.Joins
open Go.ChangeMaps (open_string shut_string)
set_option maxHeartbeats 64000000
theorem lputKey_c {w:World} {X M S:Nat} {q:Addr} (hx:w.heap[X]? = some (.cells #[.pointer (some q)] 220 (0,0))) (hm:w.heap[M]? = some (.cells #[.int .i64 4] 3 (0,0))) (hs:w.heap[S]? = some (.cells #[.func (.func 162) #[] #[]] 212 (0,0)))
 {A:Option Addr} {n cap:Nat} {L:List (List Int)} (hc:w.cell? q = some (.slice A n cap)) (hA:RowAt w A 1 (rowsK ksKey L)) (hn:L.length = n) (hn9:n < 1000000) (hw:∀ x ∈ L,wfK ksKey x) {T:ByteArray} {r:Nat} (hr:PutR lKeys (.lst L) T r) :
 Calls Tryz.prog 188 #[.pointer (some ⟨X,0,none⟩),.pointer (some ⟨M,0,none⟩),.pointer (some ⟨S,0,none⟩)] w fun e w' => e = .returned (.tuple #[.string T,.int .i64 (r:Int)]) ∧ Wider w w':=by
 have c1:=blk_cell hx 0 (v:=.pointer (some q)) rfl
 have c2:=blk_cell hm 0 (v:=.int .i64 4) rfl
 have c3:=blk_cell hs 0 (v:=.func (.func 162) #[] #[]) rfl
 have hok:lKeys.ok (.lst L) ↔ L.length ≤ 4 ∧ ∀ x ∈ L,cKey.ok x:=lst_okN
 clear hx hm hs
 by_cases big:4 < n
 · obtain ⟨rfl,rfl⟩ : T = ⟨#[]⟩ ∧ r = 3:=by
    rcases hr with ⟨h,_,_⟩ | ⟨_,h2,h3⟩
    · have:=(hok.1 h).1; omega
    · exact ⟨h2,h3⟩
   have d1:decide ((4:Int) < (n:Int)) = true:=decide_eq_true (by omega)
   have d2:decide (4 < n) = true:=decide_eq_true big
   clear hr hok hw hA hn
   go_enter Tryz.func188,Tryz.ntmps188
   go_wp2
   go_region
   all_goals
    go_wp2
    go_ret2
    exact ⟨rfl,Wider.refl _⟩
 · have d1:decide ((4:Int) < (n:Int)) = false:=decide_eq_false (by omega)
   have d2:decide (4 < n) = false:=decide_eq_false big
   have HR:=Lib.hid hr
   have HOK:=Lib.hid hok
   have HN:=Lib.hid hn
   have HW:=Lib.hid hw
   have H0:=(Own.nil (Wider.refl w)).bare 9 1
   have HL:Hid (n ≤ 4):=by show _ ≤ _; omega
   obtain ⟨i0,hi,hz0,hz1,hz2⟩:=info_parts infoS
   have hfp:=fld_put
   have hfg:=fld_get
   clear hr hok hn hw
   go_enter Tryz.func188,Tryz.ntmps188
   go_wp2
   go_quiet (fail)
   · have G0:Wider w (w.drewN nq):=Wider.refl w
     have H0d:=H0.quiet G0
     have e1:=wkeep G0 c1
     have e3:=wkeep G0 hc
     go_wp2
     go_loopw [5,19] (fun l i wr => ∃ k:Nat,k ≤ n ∧ i = .int .i64 (k:Int) ∧ ∃ B c,l = .slice B k c ∧ Own w wr [rowT 9 1 (.slice B k c) k (cellsS ((L.take k).map cKey.enc))] ∧ Hid (∀ x ∈ L.take k,cKey.ok x)) (fun _ i _ => n - (intOf i).toNat)
     case atStart => exact ⟨0,by omega,by simp,none,0,rfl,H0d,by intro x hx; simp at hx⟩
     case round =>
      obtain ⟨k,hk,rfl,B,c,rfl,H,HO⟩:=hrel
      clear H0 H0d
      by_cases ck:k < n
      · have j0:(0:Int) ≤ (k:Int):=by omega
        have j1:(k:Int) < (n:Int):=by omega
        obtain ⟨y,hy⟩:=next_some L k (by rw [HN.out]; exact ck)
        cases A with
        | none => exact absurd (hA.none_ rfl) (by intro e; have q:=rowsK_at (ks:=ksKey) hy; rw [e] at q; simp at q)
        | some a =>
          have hcy:∀ i v,(List.zipWith Value.int ksKey y)[i]? = some v → w.cell? ((a.add (k)).add i) = some v:=by
           have q:=(hA.cell a rfl k _ (rowsK_at hy)).2
           simpa using q
          have wy:wfK ksKey y:=HW.out y (List.mem_of_getElem? hy)
          have c1w:=wkeep H.wider c1
          have c3w:=wkeep H.wider c3
          have hcw:=wkeep H.wider hc
          have zi:=fun W:World => whole_i W (a.add (k))
          have HCY:=Lib.hid hcy
          have HY:=Lib.hid hy
          clear hcy hy hA
          by_cases ok:cKey.ok y
          · obtain ⟨s,hse⟩ : ∃ s,cKey.enc y = s:=⟨_,rfl⟩
            have HPR:Hid (PutR cKey y s 0):=.inl ⟨ok,hse.symm,rfl⟩
            have SN:Hid (cellsS ((L.take k).map cKey.enc) ++ [.string s] = cellsS ((L.take (k + 1)).map cKey.enc)):=by show _ = _; rw [take_next L k y HY.out,List.map_append,cellsS_append,← hse]; rfl
            have HO2:Hid (∀ x ∈ L.take (k + 1),cKey.ok x):=allL_take L k y _ HY.out HO.out ok
            have S3:Hid (k + 1 ≤ maxLen):=by show _ ≤ maxLen; unfold maxLen; omega
            have S4:Hid ((k + 1) * 16 ≤ 140737488355328):=by show _ ≤ _; omega
            clear ok hse HO
            go_upto_region 7 with (fail)
            go_region_law (first
             | (go_simp; go_at_call 162; (with_reducible refine (zi _).mono ?_); rintro e w1 ⟨x,rfl,g1,h1⟩; have hq:=h1.put w1 (Keeps.refl _ _) y wy (fun i v hv => wkeep (H.wider.trans ((Wider.refl wr).drew.trans g1)) (HCY.out i v hv)) s 0 HPR.out; have ent:∀ (args:Array Value) (w:World),(callFunc x.pf args).run Tryz.prog w = .ok (.enter x.pf args) w:=hq.1; have hq2:=hq.2 w1 (Wider.refl _); have H1:=H.quiet ((Wider.refl wr).drew.trans g1); clear hq h1)
             | (go_simp; go_at_fn x.pf; (with_reducible refine hq2.mono ?_); rintro e w2 ⟨rfl,g2⟩; have H2:=(H1.quiet g2).quiet ((Wider.refl w2).alloc (.cells #[.string s] 9)); have SIDE:=lies1 w2 (.string s) 9 rfl; have H4:=Lib.hid H2; have SD:=Lib.hid SIDE; clear H2 SIDE))
            all_goals
             go_wp2_with (first
              | (at_builtin; refine wpList_append_thing rfl (.tmp 37) (.tmp 39) 152 rfl 9 i0 (.string ⟨#[]⟩) 1 16 Tryz.underlying152 hi hz0 hz1 hz2 rfl (by decide) (.slice B k c) k (cellsS ((L.take k).map cKey.enc)) rfl H4.out (some ⟨w2.heap.size,0,none⟩) 1 1 [.string s] rfl rfl (fun e => by cases e) (fun a e => by cases e; exact SD.out.1) SD.out.2 S3.out S4.out rfl SN.out ?_; intro B2 c2 w5 H5))
             go_roundw
             case rel => exact ⟨k + 1,by omega,by go_num,B2,c2,rfl,H5,HO2⟩
             case measure => simp [intOf]; omega
          · obtain ⟨rfl,rfl⟩ : T = ⟨#[]⟩ ∧ r = 3:=by
             rcases HR.out with ⟨h,_,_⟩ | ⟨_,h2,h3⟩
             · exact absurd ((HOK.out.1 h).2 y (List.mem_of_getElem? HY.out)) ok
             · exact ⟨h2,h3⟩
            have HPR:Hid (PutR cKey y ⟨#[]⟩ 3):=.inr ⟨ok,rfl,rfl⟩
            clear ok HO
            go_upto_region 7 with (fail)
            go_region_law (first
             | (go_simp; go_at_call 162; (with_reducible refine (zi _).mono ?_); rintro e w1 ⟨x,rfl,g1,h1⟩; have hq:=h1.put w1 (Keeps.refl _ _) y wy (fun i v hv => wkeep (H.wider.trans ((Wider.refl wr).drew.trans g1)) (HCY.out i v hv)) ⟨#[]⟩ 3 HPR.out; have ent:∀ (args:Array Value) (w:World),(callFunc x.pf args).run Tryz.prog w = .ok (.enter x.pf args) w:=hq.1; have hq2:=hq.2 w1 (Wider.refl _); have H1:=H.quiet ((Wider.refl wr).drew.trans g1); clear hq h1)
             | (go_simp; go_at_fn x.pf; (with_reducible refine hq2.mono ?_); rintro e w2 ⟨rfl,g2⟩))
            all_goals
             go_wp2
             go_ret2
             exact ⟨rfl,(H1.quiet g2).wider⟩
      · obtain rfl:k = n:=by omega
        have hO:=HO.out
        have hl:=H.strs
        rw [List.take_of_length_le (by rw [HN.out]; exact Nat.le_refl _)] at hO hl
        obtain ⟨hT,rfl⟩ : T = encT (L.map cKey.enc) ∧ r = 0:=by
         rcases HR.out with ⟨_,h2,h3⟩ | ⟨h,_,_⟩
         · exact ⟨h2,h3⟩
         · exact absurd (HOK.out.2 ⟨by have:=HN.out; have:=HL.out; omega,hO⟩) h
        have hq:=HN.out
        have hb9:=HL.out
        have zt:=tlist_a B k c (L.map cKey.enc) wr hl (by simp [hq]) (by omega) (items_small (c:=cKey) rfl hO (by decide) (by omega)) (T:=T) (r:=0) hT.symm (items_ok (c:=cKey) rfl hO (by decide))
        clear hl hO hT hq hb9 HO
        go_wp2_with (go_at_call 157; ((with_reducible refine zt.mono ?_); rintro e w3 ⟨rfl,g3⟩))
        go_ret2
        exact ⟨rfl,H.wider.trans g3⟩
theorem infoKey:(Tryz.prog.info? 3).map (fun i => (i.zero,i.size,i.bytes)) = some (some (.int .i64 0),1,8):=by kernel_rfl
theorem makeKey (n:Nat) (hn:n < 1000000) (w:World):(Instr.makeSlice 35 (.int .i64 (n:Int)) (.int .i64 (n:Int))).run Tryz.prog w = .ok (.slice (some ⟨w.heap.size,0,none⟩) n n) (w.alloc (.cells (madeCells #[.int .i64 0] (n * 1)) 3)):=by
 obtain ⟨i0,hi,hz0,hz1,hz2⟩:=info_parts infoKey
 have h:=run_make (P:=Tryz.prog) (w:=w) 35 3 i0 (.int .i64 0) Tryz.underlying35 hi hz0 .i64 .i64 (n:Int) (n:Int) (by omega) (by omega) (by rw [hz2]; omega) (by omega)
 rw [hz1,Int.toNat_natCast] at h
 exact h
theorem lenKey:∀ x,cKey.ok x → x.length = ksKey.length:=by
 intro x h
 obtain ⟨n,rfl,_⟩:=h
 rfl
theorem lgetKey_c {w:World} {X M S B j:Nat} {C:Array Value} {t:TypeId} (hx:w.heap[X]? = some (.cells #[.pointer (some ⟨B,j,none⟩)] 220 (0,0))) (hm:w.heap[M]? = some (.cells #[.int .i64 4] 3 (0,0))) (hs:w.heap[S]? = some (.cells #[.func (.func 162) #[] #[]] 212 (0,0)))
 (hX:X ≠ B) (hS:S ≠ B) (hB:w.heap[B]? = some (.cells C t (0,0))) (hj:j < C.size) (s:ByteArray) (hs9:s.size < 1000000) :
 Calls Tryz.prog 189 #[.string s,.pointer (some ⟨M,0,none⟩),.pointer (some ⟨X,0,none⟩),.pointer (some ⟨S,0,none⟩)] w fun e w' => ∃ r:Nat,e = .returned (.int .i64 (r:Int)) ∧ WBut [B] w w' ∧ ((∃ y,lKeys.dec s = some y ∧ r = 0 ∧ ∃ u,relL 3 1 ksKey B w' u y ∧ w'.heap[B]? = some (.cells (C.setIfInBounds j u) t (0,0))) ∨ (lKeys.dec s = none ∧ r ≠ 0)):=by
 obtain ⟨m,c,hd⟩ : ∃ m c,decT [] 4 s.data.toList = (m,c):=⟨_,_,rfl⟩
 obtain ⟨nm,hnm⟩ : ∃ nm,m.length = nm:=⟨_,rfl⟩
 have zd:=fun W:World => treadlist_o s 4 4 rfl W hs9 (by decide) hd hnm
 have hBl:B < w.heap.size:=(Array.getElem?_eq_some_iff.1 hB).1
 have c2:=blk_cell hm 0 (v:=.int .i64 4) rfl
 by_cases c0:c = 0
 · subst c0
   have hmost:nm ≤ 4:=by have q:=decT_most (most:=4) hd; rw [hnm] at q; exact q
   have hnm9:nm < 1000000:=by omega
   have hmk:=makeKey nm hnm9
   have HX:=Lib.hid hx
   have HSS:=Lib.hid hs
   have HB:=Lib.hid hB
   have HN:=Lib.hid hnm
   have HD:=Lib.hid hd
   have hfp:=fld_put
   have hfg:=fld_get
   clear hx hs hd hnm hm hmost
   go_enter Tryz.func189,Tryz.ntmps189
   go_wp2_with (go_at_call 123; ((with_reducible refine (zd _).mono ?_); rintro e w2 ⟨A,cp,rfl,g2,h2⟩; have HO:=Lib.hid h2; have HG:=Lib.hid g2; have x2:=blk_cell (wide_blk HX.out g2) 0 (v:=.pointer (some ⟨B,j,none⟩)) rfl; have HB2:=Lib.hid (wide_blk HB.out g2); clear h2 g2))
   clear zd c2
   obtain ⟨old,hold⟩:=blk_some HB2.out hj
   have fr:=blk_free HB2.out j
   have x2a:∀ o:Obj,(w2.alloc o).cell? ⟨X,0,none⟩ = some (.pointer (some ⟨B,j,none⟩)):=fun o => kalloc x2
   have h2a:∀ o:Obj,(w2.alloc o).cell? ⟨B,j,none⟩ = some old:=fun o => kalloc hold
   have f2a:∀ o:Obj,(w2.alloc o).frozen? ⟨B,j,none⟩ = false:=fun o => blk_free (wide_blk HB2.out ((Wider.refl w2).alloc o)) j
   have hBs:B < w2.heap.size:=Nat.lt_of_lt_of_le hBl HG.out.2
   have KM:∀ (W:World),(W.alloc (.cells (madeCells #[.int .i64 0] (nm * 1)) 3)).heap[W.heap.size]? = some (.cells (madeCells #[.int .i64 0] (nm * 1)) 3 (0,0)):=fun W => heap_alloc_new W _
   go_upto_region 4 with (fail)
   have SZ:∀ a v,(w2.setCell a v).heap.size = w2.heap.size:=fun a v => by simp [World.setCell]
   have FIN:∀ (v:Value) (o:Obj),WBut [B] w2 ((w2.setCell ⟨B,j,none⟩ v).alloc o).drew ∧ ((w2.setCell ⟨B,j,none⟩ v).alloc o).drew.heap[B]? = some (.cells (C.setIfInBounds j v) t (0,0)) ∧ ((w2.setCell ⟨B,j,none⟩ v).alloc o).drew.heap[w2.heap.size]? = some o:=fun v o => ⟨(setCell_but w2 ⟨B,j,none⟩ v).thenW (((Wider.refl _).alloc o).drew),wide_blk (set_blk v HB2.out) (((Wider.refl _).alloc o).drew),by have q:=heap_alloc_new (w2.setCell ⟨B,j,none⟩ v) o; rw [SZ] at q; exact q⟩
   go_cut [20] (fun s20 wc => Hid (WBut [B] w2 wc) ∧ Hid (wc.heap[B]? = some (.cells (C.setIfInBounds j (.slice (some ⟨w2.heap.size,0,none⟩) nm nm)) t (0,0))) ∧ Hid (wc.heap[w2.heap.size]? = some (.cells (madeCells #[.int .i64 0] (nm)) 3 (0,0))))
   case first =>
    go_region_law (fail)
    all_goals (go_wp2_with fail; go_meet)
    all_goals exact FIN _ _
   case rest =>
    obtain ⟨HW,HBc,HMc⟩:=hcut
    have HX2:Hid (∀ wr,WBut [B] w2 wr → wr.cell? ⟨X,0,none⟩ = some (.pointer (some ⟨B,j,none⟩)) ∧ wr.cell? ⟨S,0,none⟩ = some (.func (.func 162) #[] #[])):=fun wr g => ⟨blk_cell (but_blk (wide_blk HX.out HG.out) g hX) 0 rfl,blk_cell (but_blk (wide_blk HSS.out HG.out) g hS) 0 rfl⟩
    clear hmk x2 x2a h2a f2a KM SZ FIN hold fr
    obtain ⟨MB,hMB⟩ : ∃ MB,w2.heap.size = MB:=⟨_,rfl⟩
    rw [hMB] at HBc HMc hBs
    go_wp2
    go_loopw [27] (fun i wr => ∃ k:Nat,k ≤ nm ∧ i = .int .i64 (k:Int) ∧ Hid (WBut [B] w2 wr) ∧ Hid (wr.heap[B]? = some (.cells (C.setIfInBounds j (.slice (some ⟨MB,0,none⟩) nm nm)) t (0,0))) ∧ ∃ D L,Hid (wr.heap[MB]? = some (.cells D 3 (0,0)) ∧ mapD cKey.dec (m.take k) = some L ∧ D.toList = cellsK ksKey L ++ cellsK ksKey (List.replicate (nm - k) cKey.zero))) (fun i _ => nm - (intOf i).toNat)
    case atStart => exact ⟨0,by omega,by simp,HW,HBc,_,[],HMc.out,rfl,by rw [Nat.sub_zero]; exact (by have q:=made_K ksKey cKey.zero #[.int .i64 0] rfl rfl (by decide) nm; rw [show (#[.int .i64 0] : Array Value).size = 1 from rfl,Nat.mul_one] at q; exact q)⟩
    case round =>
     obtain ⟨k,hk,rfl,HWr,HBr,D,L,HDr⟩:=hrel
     clear HW HBc HMc
     have hLl:L.length = k:=by have q:=mapD_length _ _ _ HDr.out.2.1; rw [List.length_take_of_le (by rw [HN.out]; exact hk)] at q; exact q
     have hLo:∀ x ∈ L,x.length = ksKey.length:=fun x hx => lenKey x ((mapD_back cKey _ _ HDr.out.2.1).1 x hx)
     have hPl:(cellsK ksKey L).length = k * 1:=by have q:=cellsK_len ksKey L hLo; rw [hLl] at q; exact q
     by_cases ck:k < nm
     · have j0:(0:Int) ≤ (k:Int):=by omega
       have j1:(k:Int) < (nm:Int):=by omega
       obtain ⟨q,hq⟩:=next_some m k (by rw [HN.out]; exact ck)
       have hOr:wr.ownsRow w.heap.size 9 1 (.slice A nm cp) nm (cellsS m):=ownsRow_heap HO.out fun i hi => HWr.out.heap i (HO.out.lt i (by simpa using hi)).2 (by have:=(HO.out.lt i (by simpa using hi)).1; simp; omega)
       obtain ⟨A',cp',ea,ha,_⟩:=strsAt_own hOr
       injection ea with ea1 ea2 ea3
       subst ea1 ea3
       cases A with
       | none => exact absurd (ha.none_ rfl) (by intro e; rw [e] at hq; simp at hq)
       | some a =>
         have cq:=ha.cell a rfl k q hq
         have sz:q.size < 1000000:=item_small HD.out hs9 hq
         have HQ:=Lib.hid hq
         have ⟨x2,s2⟩:=HX2.out wr HWr.out
         have b2:wr.cell? ⟨B,j,none⟩ = some (.slice (some ⟨MB,0,none⟩) nm nm):=blk_cell HBr.out j (set_at hj)
         have hDs:D.size = nm * 1:=by have e:=congrArg List.length HDr.out.2.2; rw [Array.length_toList,List.length_append,hPl,cellsK_len _ _ (fun x hx => by rw [List.eq_of_mem_replicate hx]; rfl),List.length_replicate] at e; have e2:ksKey.length = 1:=rfl; rw [e2] at e; omega
         have hrep:List.replicate (nm - k) cKey.zero = cKey.zero :: List.replicate (nm - (k + 1)) cKey.zero:=by rw [← List.replicate_succ]; congr 1; omega
         have hDt:D.toList = cellsK ksKey L ++ List.zipWith Value.int ksKey cKey.zero ++ cellsK ksKey (List.replicate (nm - (k + 1)) cKey.zero):=by rw [HDr.out.2.2,hrep,List.append_assoc]; rfl
         have hzero:∀ i,i < 1 → D[k * 1 + i]? = (List.zipWith Value.int ksKey cKey.zero)[i]? :=fun i hi => by rw [← Array.getElem?_toList,hDt,List.append_assoc,List.getElem?_append_right (by rw [hPl]; omega),hPl,List.getElem?_append_left (by show _ < 1; omega)]; congr 1; omega
         have zi:=fun W:World => whole_i W ⟨MB,k,none⟩
         have hMBr:wr.heap.size > MB:=(Array.getElem?_eq_some_iff.1 HDr.out.1).1
         have HDT:=Lib.hid hDt
         have HZ:=Lib.hid hzero
         have HPL:=Lib.hid hPl
         have HDS:=Lib.hid hDs
         have HMBr:=Lib.hid hMBr
         have nMB:MB ≠ B:=by omega
         clear hq ha hOr hDt hzero hPl hDs hMBr hrep hLo
         cases hdec:cKey.dec q with
         | some y =>
           have hwy:=lenKey y (cKey.back _ _ hdec).1
           have HDEC:=Lib.hid hdec
           have HWY:=Lib.hid hwy
           clear hdec hwy
           go_upto_region 8 with (fail)
           go_region_law (first
            | (go_simp; go_at_call 162; (with_reducible refine (zi _).mono ?_); rintro e w1 ⟨x,rfl,g1,h1⟩; have G1:=(Wider.refl wr).drew.trans g1; have hg:=h1.get MB (k * 1) (by rw [Nat.mul_one]) HMBr.out w1 D 3 (Keeps.refl _ _) (wide_blk HDr.out.1 G1) (by rw [HDS.out]; show k * 1 + 1 ≤ nm * 1; omega) HZ.out q sz; have ent:∀ (args:Array Value) (w:World),(callFunc x.gf args).run Tryz.prog w = .ok (.enter x.gf args) w:=h1.ent; have GH:=Lib.hid G1; clear h1 g1 G1; have hg1:=hg.1 y HDEC.out; clear hg)
            | (go_simp; go_at_fn x.gf; (with_reducible refine hg1.mono ?_); rintro e w3 ⟨rfl,g3,C3,hC3,hs3,ho3,hy3⟩; have N1:=Lib.hid (And.intro g3 (And.intro hC3 (And.intro hs3 (And.intro ho3 hy3)))); clear g3 hC3 hs3 ho3 hy3))
           all_goals
            go_wp2
            go_roundw
            case rel =>
             obtain ⟨g3,hC3,hs3,ho3,hy3⟩:=N1.out
             have hPL:=HPL.out
             refine ⟨k + 1,by omega,by go_num,(HWr.out.thenW GH.out).trans g3 (fun i m => .inr (by simp only [List.mem_singleton] at m; omega)),but_blk (wide_blk HBr.out GH.out) g3 (Ne.symm nMB),C3,L ++ [y],hC3,mapD_some_snoc HDr.out.2.1 HQ.out HDEC.out,?_⟩
             rw [cellsK_snoc]
             exact cells_next HDT.out hs3 (fun i hi => ho3 i (by rw [hPL] at hi; exact hi)) (fun i hi => by rw [hPL]; exact hy3 i hi) (by rw [List.length_zipWith,HWY.out]; rfl)
            case measure => simp [intOf]; omega
         | none =>
           have hbad:=lstV_no (hm:=by decide) (hi:=by decide) HD.out (mapD_none_snoc HDr.out.2.1 HQ.out hdec)
           have hbad:lKeys.dec s = none:=hbad
           have HBAD:=Lib.hid hbad
           have HDEC:=Lib.hid hdec
           clear hdec hbad
           go_upto_region 8 with (fail)
           go_region_law (first
            | (go_simp; go_at_call 162; (with_reducible refine (zi _).mono ?_); rintro e w1 ⟨x,rfl,g1,h1⟩; have G1:=(Wider.refl wr).drew.trans g1; have hg:=h1.get MB (k * 1) (by rw [Nat.mul_one]) HMBr.out w1 D 3 (Keeps.refl _ _) (wide_blk HDr.out.1 G1) (by rw [HDS.out]; show k * 1 + 1 ≤ nm * 1; omega) HZ.out q sz; have ent:∀ (args:Array Value) (w:World),(callFunc x.gf args).run Tryz.prog w = .ok (.enter x.gf args) w:=h1.ent; have GH:=Lib.hid G1; clear h1 g1 G1; have hg1:=hg.2 HDEC.out; clear hg)
            | (go_simp; go_at_fn x.gf; (with_reducible refine hg1.mono ?_); rintro e w3 ⟨r3,rfl,hr3,g3⟩; have d3:((r3:Int) == 0) = false:=by rw [beq_eq_false_iff_ne]; omega))
           all_goals
            go_wp2
            go_ret
            exact ⟨r3,rfl,wider_but HG.out ((HWr.out.thenW GH.out).trans g3 (fun i m => .inr (by simp only [List.mem_singleton] at m; omega))),.inr ⟨HBAD.out,hr3⟩⟩
     · obtain rfl:k = nm:=by omega
       have hmm:=HDr.out.2.1
       rw [List.take_of_length_le (by rw [HN.out]; exact Nat.le_refl _)] at hmm
       have hDt:=HDr.out.2.2
       rw [Nat.sub_self,List.replicate_zero] at hDt
       have hDt2:D.toList = cellsK ksKey L:=by rw [hDt]; simp [cellsK]
       have hgood:lKeys.dec s = some (.lst L):=lstV_yes HD.out hmm
       have P1:=Lib.hid (wider_but HG.out HWr.out)
       have P2:=Lib.hid hgood
       have P3:Hid (∃ u,relL 3 1 ksKey B wr u (.lst L) ∧ wr.heap[B]? = some (.cells (C.setIfInBounds j u) t (0,0))):=by
        refine ⟨.slice (some ⟨MB,0,none⟩) k k,⟨some ⟨MB,0,none⟩,k,k,L,rfl,rfl,hLl,hPl,.inr ⟨MB,k,D,rfl,by omega,HDr.out.1,Nat.le_refl _,by unfold maxLen; omega,?_,?_⟩⟩,HBr.out⟩
        · rw [← Array.length_toList,hDt2,hPl]
        · rw [← hDt2]; exact List.take_of_length_le (by rw [hDt2,hPl]; exact Nat.le_refl _)
       clear hmm hDt hDt2 hgood hLo hPl hLl
       go_wp2
       go_ret
       exact ⟨0,rfl,P1.out,.inl ⟨_,P2.out,rfl,P3.out⟩⟩
 · have hbad:lKeys.dec s = none:=lstV_bad hd c0
   have d0:((c:Int) == 0) = false:=by rw [beq_eq_false_iff_ne]; omega
   clear hd hx hs hB
   go_enter Tryz.func189,Tryz.ntmps189
   go_wp2_with (go_at_call 123; ((with_reducible refine (zd _).mono ?_); rintro e w2 ⟨A,cp,rfl,g2,h2⟩))
   go_ret
   exact ⟨c,rfl,g2.but _,.inr ⟨hbad,c0⟩⟩
theorem listKey_c (w:World) (q:Addr) :
 Calls Tryz.prog 166 #[.pointer (some q),.int .i64 4,.func (.func 162) #[] #[]] w fun e w' => ∃ x:FnP,e = .returned (.agg #[.func (.func x.pf) #[] x.pc,.func (.func x.gf) #[] x.gc]) ∧ Wider w w' ∧ PartV lKeys (inL ksKey) (relL 3 1 ksKey) w.heap.size w' x q:=by
 have hmf:=mk_func
 have H:=((((Own.nil (Wider.refl w)).blk #[.pointer (some q)] 220).blk #[.int .i64 4] 3).blk #[.func (.func 162) #[] #[]] 212).blk #[.func (.func 188) #[] #[.pointer (some ⟨w.heap.size,0,none⟩),.pointer (some ⟨w.heap.size + 1,0,none⟩),.pointer (some ⟨w.heap.size + 2,0,none⟩)],.func (.func 189) #[] #[.pointer (some ⟨w.heap.size + 1,0,none⟩),.pointer (some ⟨w.heap.size,0,none⟩),.pointer (some ⟨w.heap.size + 2,0,none⟩)]] 200
 have z1:(w.alloc (.cells #[.pointer (some q)] 220)).heap.size = w.heap.size + 1:=by simp
 have z2:((w.alloc (.cells #[.pointer (some q)] 220)).alloc (.cells #[.int .i64 4] 3)).heap.size = w.heap.size + 2:=by simp
 rw [z1,z2] at H
 clear z1 z2
 go_enter Tryz.func166,Tryz.ntmps166
 go_wp2
 simp [bodyPost,results,Tryz.results166,go_sem]
 have hx:=H.drop.drop.drop.head
 have hm:=H.drop.drop.head
 have hs:=H.drop.head
 refine ⟨⟨_,_,_,_⟩,⟨⟨rfl,rfl⟩,rfl,rfl⟩,H.wider,?_,enters_of Tryz.func189 (by kernel_rfl) rfl,?_⟩
 · rintro w2 g2 u y hc ⟨A,n,cap,L,rfl,rfl,hn,hn9,hA,hw⟩ T r hr
   refine ⟨enters_of Tryz.func188 (by kernel_rfl) rfl,fun w3 g3 => ?_⟩
   exact lputKey_c (wide_blk (keep_blk hx g2 (by omega)) g3) (wide_blk (keep_blk hm g2 (by omega)) g3) (wide_blk (keep_blk hs g2 (by omega)) g3) (wkeep g3 hc) (hA.on g3) hn hn9 hw hr
 · intro B j hq hB w2 C t g2 hC hj s hs9
   subst hq
   have k:=lgetKey_c (keep_blk hx g2 (by omega)) (keep_blk hm g2 (by omega)) (keep_blk hs g2 (by omega)) (by omega) (by omega) hC hj s hs9
   refine ⟨fun y hy => k.mono ?_,fun hn => k.mono ?_⟩
   · rintro e w3 ⟨r,rfl,g3,⟨y2,h1,rfl,h2⟩ | ⟨h1,_⟩⟩
     · rw [hy] at h1
       injection h1 with h1
       subst h1
       exact ⟨rfl,g3,h2⟩
     · rw [hy] at h1; cases h1
   · rintro e w3 ⟨r,rfl,g3,⟨y2,h1,_⟩ | ⟨_,h2⟩⟩
     · rw [hn] at h1; cases h1
     · exact ⟨r,rfl,h2,g3⟩
theorem table_s (w:World) (p:Addr) :
 Calls Tryz.prog 129 #[.pointer (some p)] w fun e w' => ∃ x:FnP,e = .returned (.agg #[.func (.func x.pf) #[] x.pc,.func (.func x.gf) #[] x.gc]) ∧ Wider w w' ∧ ∃ x0 x1 x2 x3 x4:FnP,RecAt w.heap.size w' x [x0,x1,x2,x3,x4] ∧ NumP .i64 2147483647 (by decide) w.heap.size w' x0 p ∧ NumP .u8 255 (by decide) w.heap.size w' x1 ⟨p.block,p.off + 1,none⟩ ∧ PartV lKeys (inL ksKey) (relL 3 1 ksKey) w.heap.size w' x2 ⟨p.block,p.off + 2,none⟩ ∧ NumP .i64 2147483647 (by decide) w.heap.size w' x3 ⟨p.block,p.off + 3,none⟩ ∧ NumP .i64 2147483647 (by decide) w.heap.size w' x4 ⟨p.block,p.off + 4,none⟩:=by
 have H:=(Own.nil (Wider.refl w)).blk #[.nilFunc,.nilFunc] 200
 have hs:(w.alloc (.cells #[.nilFunc,.nilFunc] 200)).heap.size = w.heap.size + 1:=by simp
 have b0:w.heap.size < (w.alloc (.cells #[.nilFunc,.nilFunc] 200)).drew.heap.size:=by show w.heap.size < (w.alloc _).heap.size; rw [hs]; omega
 have zr:∀ (W:World) (t:TypeId) (x0 x1 x2 x3 x4:FnP),w.heap.size < W.heap.size → Calls Tryz.prog 161 #[.slice (some ⟨W.heap.size,0,none⟩) 5 5] (W.alloc (.cells #[.func (.func x0.pf) #[] x0.pc,.func (.func x0.gf) #[] x0.gc,.func (.func x1.pf) #[] x1.pc,.func (.func x1.gf) #[] x1.gc,.func (.func x2.pf) #[] x2.pc,.func (.func x2.gf) #[] x2.gc,.func (.func x3.pf) #[] x3.pc,.func (.func x3.gf) #[] x3.gc,.func (.func x4.pf) #[] x4.pc,.func (.func x4.gf) #[] x4.gc] t)) fun e w' => ∃ x:FnP,e = .returned (.agg #[.func (.func x.pf) #[] x.pc,.func (.func x.gf) #[] x.gc]) ∧ Wider (W.alloc (.cells #[.func (.func x0.pf) #[] x0.pc,.func (.func x0.gf) #[] x0.gc,.func (.func x1.pf) #[] x1.pc,.func (.func x1.gf) #[] x1.gc,.func (.func x2.pf) #[] x2.pc,.func (.func x2.gf) #[] x2.gc,.func (.func x3.pf) #[] x3.pc,.func (.func x3.gf) #[] x3.gc,.func (.func x4.pf) #[] x4.pc,.func (.func x4.gf) #[] x4.gc] t)) w' ∧ RecAt (w.heap.size + 1) w' x [x0,x1,x2,x3,x4] :=
  fun W t x0 x1 x2 x3 x4 h => record_c _ (ps:=[x0,x1,x2,x3,x4]) (heap_alloc_new W _) rfl h
 have p0:=add0 p
 have B0:=Lib.hid b0
 have HH:=Lib.hid (H.quiet (Wider.refl _).drew)
 clear hs b0 H
 go_enter Tryz.func129,Tryz.ntmps129
 go_upto_region 1 with (fail)
 go_region_law (first
  | (go_simp; go_at_call 162; (with_reducible refine (owhole_c _ p).mono ?_); rintro e w1 ⟨x0,rfl,g0,h0⟩; have B1:Hid (w.heap.size < w1.heap.size):=Nat.lt_of_lt_of_le B0.out g0.2; have S0:=Lib.hid h0; have T0:=Lib.hid g0; clear h0 g0)
  | (go_simp; go_at_call 165; (with_reducible refine (ooctet_c _ ⟨p.block,p.off + 1,none⟩).mono ?_); rintro e w2 ⟨x1,rfl,g1,h1⟩; have B2:Hid (w.heap.size < w2.heap.size):=Nat.lt_of_lt_of_le B1.out g1.2; have S1:=Lib.hid h1; have T1:=Lib.hid g1; clear h1 g1)
  | (go_simp; go_at_call 166; (with_reducible refine (listKey_c _ ⟨p.block,p.off + 2,none⟩).mono ?_); rintro e w3 ⟨x2,rfl,g2,h2⟩; have B3:Hid (w.heap.size < w3.heap.size):=Nat.lt_of_lt_of_le B2.out g2.2; have S2:=Lib.hid h2; have T2:=Lib.hid g2; clear h2 g2)
  | (go_simp; go_at_call 162; (with_reducible refine (owhole_c _ ⟨p.block,p.off + 3,none⟩).mono ?_); rintro e w4 ⟨x3,rfl,g3,h3⟩; have B4:Hid (w.heap.size < w4.heap.size):=Nat.lt_of_lt_of_le B3.out g3.2; have S3:=Lib.hid h3; have T3:=Lib.hid g3; clear h3 g3)
  | (go_simp; go_at_call 162; (with_reducible refine (owhole_c _ ⟨p.block,p.off + 4,none⟩).mono ?_); rintro e w5 ⟨x4,rfl,g4,h4⟩; have B5:Hid (w.heap.size < w5.heap.size):=Nat.lt_of_lt_of_le B4.out g4.2; have S4:=Lib.hid h4; have T4:=Lib.hid g4; clear h4 g4)
  | (go_simp; go_at_call 161; (with_reducible refine (zr _ _ x0 x1 x2 x3 x4 B5.out).mono ?_); rintro e wR ⟨xr,rfl,gR,hR⟩; have HW:=((((((HH.out.quiet T0.out).quiet T1.out).quiet T2.out).quiet T3.out).quiet T4.out).quiet ((Wider.refl w5).alloc _)).quiet gR; have k0:=blk_cell HW.head 0 (v:=.nilFunc) rfl; have k1:=blk_cell HW.head 1 (v:=.nilFunc) rfl; have f0:=blk_free HW.head 0; have f1:=blk_free HW.head 1; have SR:=Lib.hid hR; have TR:=Lib.hid gR; clear hR gR))
 all_goals
  have H2:=(HW.store 0 (.func (.func xr.pf) #[] xr.pc)).store 1 (.func (.func xr.gf) #[] xr.gc)
  have d0:=blk_cell H2.head 0 (v:=.func (.func xr.pf) #[] xr.pc) rfl
  have d1:=blk_cell H2.head 1 (v:=.func (.func xr.gf) #[] xr.gc) rfl
  have KS:∀ b,w.heap.size < b → Keeps b wR ((wR.setCell ⟨w.heap.size,0,none⟩ (.func (.func xr.pf) #[] xr.pc)).setCell ⟨w.heap.size,1,none⟩ (.func (.func xr.gf) #[] xr.gc)):=fun b hb => (keeps_set wR hb).trans (keeps_set _ hb)
  clear k0 k1 f0 f1 HW
  go_wp2
  simp [bodyPost,results,Tryz.results129,go_sem,d0,d1]
  exact ⟨xr,⟨⟨rfl,rfl⟩,rfl,rfl⟩,H2.wider,x0,x1,x2,x3,x4,SR.out.on (KS _ (Nat.lt_succ_self _)) (Nat.le_succ _),S0.out.on (((((((((Wider.refl w1).trans T1.out).trans T2.out).trans T3.out).trans T4.out).alloc _).trans TR.out).keeps _).trans (KS _ B0.out)) (Nat.le_of_lt B0.out),S1.out.on ((((((((Wider.refl w2).trans T2.out).trans T3.out).trans T4.out).alloc _).trans TR.out).keeps _).trans (KS _ B1.out)) (Nat.le_of_lt B1.out),S2.out.on (((((((Wider.refl w3).trans T3.out).trans T4.out).alloc _).trans TR.out).keeps _).trans (KS _ B2.out)) (Nat.le_of_lt B2.out),S3.out.on ((((((Wider.refl w4).trans T4.out).alloc _).trans TR.out).keeps _).trans (KS _ B3.out)) (Nat.le_of_lt B3.out),S4.out.on (((((Wider.refl w5).alloc _).trans TR.out).keeps _).trans (KS _ B4.out)) (Nat.le_of_lt B4.out)⟩
theorem table_puts {w W:World} {x:FnP} {v0:Int} {v1:Int} {v3:Int} {v4:Int} {A:Option Addr} {n cap:Nat} {L:List (List Int)} (w0:(Lit.int .i64 v0).wf = true) (w1:(Lit.int .u8 v1).wf = true) (w3:(Lit.int .i64 v3).wf = true) (w4:(Lit.int .i64 v4).wf = true) (hA:RowAt w A 1 (rowsK ksKey L)) (hn:L.length = n) (hn9:n < 1000000) (hL:∀ x ∈ L,wfK ksKey x) (hg:Wider w W) {B:Nat} (hB:W.heap[B]? = some (.cells #[.int .i64 v0,.int .u8 v1,.slice A n cap,.int .i64 v3,.int .i64 v4] 37 (0,0)))
 {b0:Nat} {x0 x1 x2 x3 x4:FnP} (hR:RecAt b0 W x [x0,x1,x2,x3,x4]) (hp:NumP .i64 2147483647 (by decide) b0 W x0 (⟨B,0,none⟩ : Addr) ∧ NumP .u8 255 (by decide) b0 W x1 (⟨B,0 + 1,none⟩ : Addr) ∧ PartV lKeys (inL ksKey) (relL 3 1 ksKey) b0 W x2 (⟨B,0 + 2,none⟩ : Addr) ∧ NumP .i64 2147483647 (by decide) b0 W x3 (⟨B,0 + 3,none⟩ : Addr) ∧ NumP .i64 2147483647 (by decide) b0 W x4 (⟨B,0 + 4,none⟩ : Addr)) {T:ByteArray} {r:Nat} (hr:PutG csTable [ValN.num v0,ValN.num v1,ValN.lst L,ValN.num v3,ValN.num v4] T r):Puts W x T r:=by
 obtain ⟨h0,h1,h2,h3,h4⟩:=hp
 refine recput_c hR rfl rfl (fun k p c y e1 e2 e3 T r h => ?_) (by decide) (by decide) (by decide) hr
 match k,e1,e2,e3 with
 | 0,e1,e2,e3 =>
   simp [csTable] at e1 e2 e3
   subst e1 e2 e3
   exact h0.part.put W (Keeps.refl _ _) _ _ (blk_cell hB 0 rfl) ⟨_,rfl,rfl,w0⟩ T r h
 | 1,e1,e2,e3 =>
   simp [csTable] at e1 e2 e3
   subst e1 e2 e3
   exact h1.part.put W (Keeps.refl _ _) _ _ (blk_cell hB 1 rfl) ⟨_,rfl,rfl,w1⟩ T r h
 | 2,e1,e2,e3 =>
   simp [csTable] at e1 e2 e3
   subst e1 e2 e3
   exact h2.put W (Keeps.refl _ _) _ _ (blk_cell hB 2 rfl) ⟨A,n,cap,L,rfl,rfl,hn,hn9,hA.on hg,hL⟩ T r h
 | 3,e1,e2,e3 =>
   simp [csTable] at e1 e2 e3
   subst e1 e2 e3
   exact h3.part.put W (Keeps.refl _ _) _ _ (blk_cell hB 3 rfl) ⟨_,rfl,rfl,w3⟩ T r h
 | 4,e1,e2,e3 =>
   simp [csTable] at e1 e2 e3
   subst e1 e2 e3
   exact h4.part.put W (Keeps.refl _ _) _ _ (blk_cell hB 4 rfl) ⟨_,rfl,rfl,w4⟩ T r h
 | k + 5,e1,e2,e3 => simp at e1
theorem putTable_c (w:World) {v0:Int} {v1:Int} {v3:Int} {v4:Int} {A:Option Addr} {n cap:Nat} {L:List (List Int)} (w0:(Lit.int .i64 v0).wf = true) (w1:(Lit.int .u8 v1).wf = true) (w3:(Lit.int .i64 v3).wf = true) (w4:(Lit.int .i64 v4).wf = true) (hA:RowAt w A 1 (rowsK ksKey L)) (hn:L.length = n) (hn9:n < 1000000) (hL:∀ x ∈ L,wfK ksKey x) {T:ByteArray} {r:Nat} (hr:PutG csTable [ValN.num v0,ValN.num v1,ValN.lst L,ValN.num v3,ValN.num v4] T r) :
 Calls Tryz.prog 114 #[.agg #[.int .i64 v0,.int .u8 v1,.slice A n cap,.int .i64 v3,.int .i64 v4]] w fun e w' => e = .returned (.tuple #[.string T,.int .i64 (r:Int)]) ∧ Wider w w':=by
 have H:=(Own.nil (Wider.refl w)).blk #[.int .i64 v0,.int .u8 v1,.slice A n cap,.int .i64 v3,.int .i64 v4] 37
 have zs:=table_s (w.alloc (.cells #[.int .i64 v0,.int .u8 v1,.slice A n cap,.int .i64 v3,.int .i64 v4] 37)) ⟨w.heap.size,0,none⟩
 have hfp:=fld_put
 have HH:=Lib.hid H
 clear H
 go_enter Tryz.func114,Tryz.ntmps114
 go_wp2_with (first
  | (go_at_call 129; (with_reducible refine zs.mono ?_); rintro e wA ⟨x,rfl,g1,x0,x1,x2,x3,x4,hR,hp⟩; have hq:=table_puts (w0:=w0) (w1:=w1) (w3:=w3) (w4:=w4) (hA:=hA) (hn:=hn) (hn9:=hn9) (hL:=hL) (((Wider.refl w).alloc _).trans g1) (HH.out.quiet g1).head hR hp hr; have ent:∀ (args:Array Value) (w:World),(callFunc x.pf args).run Tryz.prog w = .ok (.enter x.pf args) w:=hq.1; have hq2:=hq.2 wA (Wider.refl _); clear hq hR hp)
  | (go_at_fn x.pf; (with_reducible refine hq2.mono ?_); rintro e wB ⟨rfl,g2⟩))
 go_ret2
 exact ⟨rfl,(((Wider.refl w).alloc _).trans g1).trans g2⟩
end Go.Proofs.YtoopdhgmdjienaaGreatDoor
