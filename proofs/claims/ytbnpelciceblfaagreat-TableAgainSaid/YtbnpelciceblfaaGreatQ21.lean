/- JCodeD JCodeE JCodeF -/
import Derived.Test.YtbnpelciceblfaaGreatQ20
namespace Go.Proofs.YtbnpelciceblfaaGreat
set_option linter.unusedVariables false
open Go.ChangeShapes Go.WideShapes Go.ChangeAt Go.RowKit Go.Joins
set_option maxHeartbeats 64000000
theorem clean_is (v:Option Int) (l r:Tr):(Tr.node v l r).clean = if (v.isNone && (l.isNil && r.isNil)) = true then .nil else .node v l r:=by
 cases v <;> cases l <;> cases r <;> rfl
theorem jprune_c (key:ByteArray) (hk:key.size < 1000000):∀ (rest:List Bool) (a:Nat) (B:Nat) (cn v:Option Int) (l r:TB) {V w:World} {R:List Thing},(∀ j d,rest[j]? = some d → a + j < 8 * key.size ∧ bitS key (a + j) = d.toNat) → a + rest.length ≤ 256 → (TB.node B cn v l r).sub rest ≠ .nil →
 Own V w (treeT (.node B cn v l r) :: R) → ∀ (m:Nat),m = a + rest.length →
 Calls Tryz.prog 112 #[.pointer (some ⟨B,0,none⟩),.string key,.int .i64 (a:Int),.int .i64 (m:Int)] w fun e w' => e = .returned (.tuple #[]) ∧ ∃ T',Own V w' (treeT T' :: R) ∧ rootB T' = some (B,cn) ∧ T'.tr = (Tr.node v l.tr r.tr).prune rest
 | [],a,B,cn,v,l,r,V,w,R,hbit,h256,hsub,H,m,hm => by
   have e1:((a:Int) == (m:Int)) = true:=by rw [beq_iff_eq,hm]; simp
   clear hm hsub hbit
   go_enter Tryz.func112,Tryz.ntmps112
   go_wp2
   simp [bodyPost,results,Tryz.results112]
   exact ⟨_,H,rfl,rfl⟩
 | false :: rest,a,B,cn,v,l,r,V,w,R,hbit,h256,hsub,H,m,hm => by
   have hm2:m = (a + 1) + rest.length:=by rw [hm,List.length_cons]; omega
   rw [List.length_cons] at h256 hm
   have e1:((a:Int) == (m:Int)) = false:=by rw [beq_eq_false_iff_ne]; omega
   obtain ⟨b0,b1⟩:=hbit 0 false rfl
   rw [Nat.add_zero] at b0 b1
   have zb:∀ w,Calls Tryz.prog 117 #[.string key,.int .i64 (a:Int)] w fun e w' => e = .returned (.tuple #[.int .u64 0,.bool true]) ∧ Wider w w':=fun w => jbit_c key a hk (by omega) (l:=0) (is:=true) (by unfold bitN; rw [if_pos b0,b1]; rfl) (by simp [b0]) w
   have i1:IntKind.i64.wrap ((a:Int) + 1) = (a:Int) + 1:=by simp [IntKind.wrap,IntKind.bits,IntKind.signed]; omega
   have hs2:l.sub rest ≠ .nil:=hsub
   have H1:=H.treeOpen
   clear H hsub
   cases l with
   | nil => exact absurd (show TB.nil.sub rest = .nil by cases rest <;> rfl) hs2
   | node B2 c2 v2 l2 r2 =>
     have c0:w.cell? ⟨B,0,none⟩ = some (.pointer (some ⟨B2,0,none⟩)):=blk_cell H1.head 0 (cellsJ_0 cn v _ _)
     have H2:=H1.swap
     have ih:=fun w1 (R1:List Thing) (K:Own V w1 (treeT (.node B2 c2 v2 l2 r2) :: R1)) => jprune_c key hk rest (a + 1) B2 c2 v2 l2 r2 (fun j d h => by have:=hbit (j + 1) d h; rw [Nat.add_assoc,Nat.add_comm 1 j]; exact this) (by omega) hs2 K m hm2
     have IH:Hid (∀ (w1:World) (R1:List Thing),Own V w1 (treeT (.node B2 c2 v2 l2 r2) :: R1) → Calls Tryz.prog 112 #[.pointer (some ⟨B2,0,none⟩),.string key,.int .i64 ((a:Int) + 1),.int .i64 (m:Int)] w1 fun e w' => e = .returned (.tuple #[]) ∧ ∃ T',Own V w' (treeT T' :: R1) ∧ rootB T' = some (B2,c2) ∧ T'.tr = (Tr.node v2 l2.tr r2.tr).prune rest):=Lib.hid ih
     clear ih hbit hm hm2 hs2 b0 b1 H1
     go_enter Tryz.func112,Tryz.ntmps112
     go_upto_region 3 with (first
      | (go_at_call 117; ((with_reducible refine (zb _).mono ?_); rintro e w3 ⟨rfl,g⟩; replace c0:=wkeep g c0; replace H2:=H2.quiet g; clear g))
      | (go_at_call 112; ((with_reducible refine (IH.out _ _ H2).mono ?_); rintro e w4 ⟨rfl,T2,H3,hr,ht⟩)))
     obtain ⟨v3,l3,r3,rfl⟩:=rootB_node hr
     have ht:Tr.node v3 l3.tr r3.tr = (Tr.node v2 l2.tr r2.tr).prune rest:=ht
     have HTT:=Lib.hid ht
     have d0:w4.cell? ⟨B,0,none⟩ = some (.pointer (some ⟨B2,0,none⟩)):=blk_cell H3.second 0 (cellsJ_0 cn v _ _)
     obtain ⟨b,hb⟩ : ∃ b,(v3.isNone && (l3.tr.isNil && r3.tr.isNil)) = b:=⟨_,rfl⟩
     have ze:=jempty_c H3.head.1.1 hb
     have HB:=Lib.hid (clean_is v3 l3.tr r3.tr)
     rw [hb] at HB
     clear c0 H2 IH hr ht zb hb
     cases b with
     | false =>
       go_wp2_with (first
        | (go_at_call 118; ((with_reducible refine ze.mono ?_); rintro e w5 ⟨rfl,g⟩; replace H3:=H3.quiet g; clear g)))
       simp [bodyPost,results,Tryz.results112]
       refine ⟨_,(H3.swap).treeShut (l:=.node B2 c2 v3 l3 r3) (r:=r) rfl rfl,rfl,?_⟩
       show Tr.node v (.node v3 l3.tr r3.tr) r.tr = Tr.node v ((Tr.node v2 l2.tr r2.tr).prune rest).clean r.tr
       rw [← HTT.out,HB.out]; rfl
     | true =>
       have H4:=(H3.drop).store 0 (.pointer none)
       rw [cellsJ_set0] at H4
       have HW:=Lib.hid H3
       go_upto_region 4 with (first
        | (go_at_call 118; ((with_reducible refine ze.mono ?_); rintro e w5 ⟨rfl,g⟩; replace H3:=H3.quiet g; clear g)))
       have f0:=blk_free H3.second 0
       have d1:w5.cell? ⟨B,0,none⟩ = some (.pointer (some ⟨B2,0,none⟩)):=blk_cell H3.second 0 (cellsJ_0 cn v _ _)
       have H5:=(H3.drop).store 0 (.pointer none)
       rw [cellsJ_set0] at H5
       go_wp2
       simp [bodyPost,results,Tryz.results112]
       refine ⟨_,(H5.noTree.swap).treeShut (l:=.nil) (r:=r) rfl rfl,rfl,?_⟩
       show Tr.node v .nil r.tr = Tr.node v ((Tr.node v2 l2.tr r2.tr).prune rest).clean r.tr
       rw [← HTT.out,HB.out]; rfl
 | true :: rest,a,B,cn,v,l,r,V,w,R,hbit,h256,hsub,H,m,hm => by
   have hm2:m = (a + 1) + rest.length:=by rw [hm,List.length_cons]; omega
   rw [List.length_cons] at h256 hm
   have e1:((a:Int) == (m:Int)) = false:=by rw [beq_eq_false_iff_ne]; omega
   obtain ⟨b0,b1⟩:=hbit 0 true rfl
   rw [Nat.add_zero] at b0 b1
   have zb:∀ w,Calls Tryz.prog 117 #[.string key,.int .i64 (a:Int)] w fun e w' => e = .returned (.tuple #[.int .u64 1,.bool true]) ∧ Wider w w':=fun w => jbit_c key a hk (by omega) (l:=1) (is:=true) (by unfold bitN; rw [if_pos b0,b1]; rfl) (by simp [b0]) w
   have i1:IntKind.i64.wrap ((a:Int) + 1) = (a:Int) + 1:=by simp [IntKind.wrap,IntKind.bits,IntKind.signed]; omega
   have hs2:r.sub rest ≠ .nil:=hsub
   have H1:=H.treeOpen
   clear H hsub
   cases r with
   | nil => exact absurd (show TB.nil.sub rest = .nil by cases rest <;> rfl) hs2
   | node B2 c2 v2 l2 r2 =>
     have c0:w.cell? ⟨B,1,none⟩ = some (.pointer (some ⟨B2,0,none⟩)):=blk_cell H1.head 1 (cellsJ_1 cn v _ _)
     have H2:=H1.third
     have ih:=fun w1 (R1:List Thing) (K:Own V w1 (treeT (.node B2 c2 v2 l2 r2) :: R1)) => jprune_c key hk rest (a + 1) B2 c2 v2 l2 r2 (fun j d h => by have:=hbit (j + 1) d h; rw [Nat.add_assoc,Nat.add_comm 1 j]; exact this) (by omega) hs2 K m hm2
     have IH:Hid (∀ (w1:World) (R1:List Thing),Own V w1 (treeT (.node B2 c2 v2 l2 r2) :: R1) → Calls Tryz.prog 112 #[.pointer (some ⟨B2,0,none⟩),.string key,.int .i64 ((a:Int) + 1),.int .i64 (m:Int)] w1 fun e w' => e = .returned (.tuple #[]) ∧ ∃ T',Own V w' (treeT T' :: R1) ∧ rootB T' = some (B2,c2) ∧ T'.tr = (Tr.node v2 l2.tr r2.tr).prune rest):=Lib.hid ih
     clear ih hbit hm hm2 hs2 b0 b1 H1
     go_enter Tryz.func112,Tryz.ntmps112
     go_upto_region 3 with (first
      | (go_at_call 117; ((with_reducible refine (zb _).mono ?_); rintro e w3 ⟨rfl,g⟩; replace c0:=wkeep g c0; replace H2:=H2.quiet g; clear g))
      | (go_at_call 112; ((with_reducible refine (IH.out _ _ H2).mono ?_); rintro e w4 ⟨rfl,T2,H3,hr,ht⟩)))
     obtain ⟨v3,l3,r3,rfl⟩:=rootB_node hr
     have ht:Tr.node v3 l3.tr r3.tr = (Tr.node v2 l2.tr r2.tr).prune rest:=ht
     have HTT:=Lib.hid ht
     have d0:w4.cell? ⟨B,1,none⟩ = some (.pointer (some ⟨B2,0,none⟩)):=blk_cell H3.second 1 (cellsJ_1 cn v _ _)
     obtain ⟨b,hb⟩ : ∃ b,(v3.isNone && (l3.tr.isNil && r3.tr.isNil)) = b:=⟨_,rfl⟩
     have ze:=jempty_c H3.head.1.1 hb
     have HB:=Lib.hid (clean_is v3 l3.tr r3.tr)
     rw [hb] at HB
     clear c0 H2 IH hr ht zb hb
     cases b with
     | false =>
       go_wp2_with (first
        | (go_at_call 118; ((with_reducible refine ze.mono ?_); rintro e w5 ⟨rfl,g⟩; replace H3:=H3.quiet g; clear g)))
       simp [bodyPost,results,Tryz.results112]
       refine ⟨_,(H3.swap.swap2).treeShut (l:=l) (r:=.node B2 c2 v3 l3 r3) rfl rfl,rfl,?_⟩
       show Tr.node v l.tr (.node v3 l3.tr r3.tr) = Tr.node v l.tr ((Tr.node v2 l2.tr r2.tr).prune rest).clean
       rw [← HTT.out,HB.out]; rfl
     | true =>
       have H4:=(H3.drop).store 1 (.pointer none)
       rw [cellsJ_set1] at H4
       have HW:=Lib.hid H3
       go_upto_region 4 with (first
        | (go_at_call 118; ((with_reducible refine ze.mono ?_); rintro e w5 ⟨rfl,g⟩; replace H3:=H3.quiet g; clear g)))
       have f0:=blk_free H3.second 1
       have d1:w5.cell? ⟨B,1,none⟩ = some (.pointer (some ⟨B2,0,none⟩)):=blk_cell H3.second 1 (cellsJ_1 cn v _ _)
       have H5:=(H3.drop).store 1 (.pointer none)
       rw [cellsJ_set1] at H5
       go_wp2
       simp [bodyPost,results,Tryz.results112]
       refine ⟨_,(H5.noTree.swap.swap2).treeShut (l:=l) (r:=.nil) rfl rfl,rfl,?_⟩
       show Tr.node v l.tr .nil = Tr.node v l.tr ((Tr.node v2 l2.tr r2.tr).prune rest).clean
       rw [← HTT.out,HB.out]; rfl
theorem getPlug_other:∀ (C:List Fr) (s u:Tr) (q:List Bool),(∀ c,c ≠ q → s.get c = u.get c) → ∀ c,c ≠ pathJ C ++ q → (trPlug C s).get c = (trPlug C u).get c
 | [],s,u,q,h,c,hc => h c hc
 | f :: C,s,u,q,h,c,hc => by
   refine getPlug_other C _ _ (f.d :: q) (fun c2 h2 => ?_) c (by
    have e:pathJ (f :: C) ++ q = pathJ C ++ f.d :: q:=by show (pathJ C ++ [f.d]) ++ q = _; rw [List.append_assoc]; rfl
    rw [← e]; exact hc)
   cases hd:f.d <;> rw [hd] at h2
   · cases c2 with
     | nil => rfl
     | cons b c2 =>
       cases b
       · exact h c2 (fun e => h2 (by rw [e]))
       · rfl
   · cases c2 with
     | nil => rfl
     | cons b c2 =>
       cases b
       · rfl
       · exact h c2 (fun e => h2 (by rw [e]))
theorem limPlug:∀ (C:List Fr) {v y:Option Int} {l r:Tr} {n:Nat},(trPlug C (.node v l r)).Lim n → (trPlug C (.node y l r)).Lim n
 | [],v,y,l,r,n,h => h
 | f :: C,v,y,l,r,n,h => by
   have key:∀ (C:List Fr) {s u:Tr} {n:Nat},(∀ m,s.Lim m → u.Lim m) → (trPlug C s).Lim n → (trPlug C u).Lim n:=by
    intro C
    induction C with
    | nil => intro s u n h1 h2; exact h1 n h2
    | cons f C ih =>
      intro s u n h1 h2
      refine ih (s:=if f.d then .node f.v f.s.tr s else .node f.v s f.s.tr) (fun m h3 => ?_) h2
      cases hd:f.d <;> rw [hd] at h3
      · obtain ⟨k,e,a1,a2⟩:=h3
        exact ⟨k,e,h1 k a1,a2⟩
      · obtain ⟨k,e,a1,a2⟩:=h3
        exact ⟨k,e,a1,h1 k a2⟩
   exact key (f :: C) (s:=.node v l r) (u:=.node y l r) (fun m h3 => h3) h
theorem jdel_c {key:ByteArray} {bs:List Bool} (hb:IsKey key bs) {n:Int} (hn:n = (bs.length:Int)) {A:Nat} {t:Tr} {T:TB} (ht:IsTrie A t T) (hcn:t.count < 1000000) {V w:World} {R:List Thing} (H:Own V w (treeT T :: R)) {b:Bool} (hbb:(t.get bs).isSome = b) :
 Calls Tryz.prog 105 #[.pointer (some ⟨A,0,none⟩),.string key,.int .i64 n] w fun e w' => e = .returned (.bool b) ∧ ∃ T',IsTrie A (t.del bs) T' ∧ Own V w' (treeT T' :: R):=by
 obtain ⟨v,l,r,eT⟩:=ht.root
 have zf:=jfind_c hb hn (eT ▸ H.head.1)
 rw [← eT] at zf
 have hg:=ht.get bs
 rcases got_sub (T:=T) (bs:=bs) with ⟨e1,e2⟩ | ⟨x,B,c,l2,r2,e1,e2,e3⟩
 · rw [e2] at zf
   have zf:Calls Tryz.prog 111 #[.pointer (some ⟨A,0,none⟩),.string key,.int .i64 n] w fun e w' => e = .returned (.pointer none) ∧ Wider w w':=zf
   obtain rfl:b = false:=by rw [← hbb,← hg,e1]; rfl
   have hdel:IsTrie A (t.del bs) T:=by
    have hcount:(t.del bs).count = t.count:=by
     have:=Tr.count_del t bs
     rw [← hg,e1] at this; simpa using this
    refine ⟨⟨v,l,r,by rw [hcount]; exact eT⟩,fun cs => ?_,ht.lim⟩
    rw [Tr.get_del,ht.get cs]
    by_cases q:cs = bs
    · rw [if_pos q,q,← hg,e1]
    · rw [if_neg q]
   have HD:=Lib.hid hdel
   clear hn hb hbb hg e1 e2 ht hdel eT
   go_enter Tryz.func105,Tryz.ntmps105
   go_wp2_with (first
    | (go_at_call 111; ((with_reducible refine zf.mono ?_); rintro e w3 ⟨rfl,g⟩; replace H:=H.quiet g; clear g)))
   go_ret
   exact ⟨rfl,T,HD.out,H⟩
 · rw [e3] at zf
   have zf:Calls Tryz.prog 111 #[.pointer (some ⟨A,0,none⟩),.string key,.int .i64 n] w fun e w' => e = .returned (.pointer (some ⟨B,0,none⟩)) ∧ Wider w w':=zf
   obtain rfl:b = true:=by rw [← hbb,← hg,e1]; rfl
   have hk:key.size < 1000000:=by have:=hb.size_le; omega
   have hcount:(t.del bs).count + 1 = t.count:=by
    have:=Tr.count_del t bs
    rw [← hg,e1] at this; simpa using this
   obtain ⟨k,hkc⟩ : ∃ k,(t.del bs).count = k:=⟨_,rfl⟩
   have eT2:T = .node A (some ((k:Int) + 1)) v l r:=by rw [eT,← hcount,hkc]; rfl
   obtain ⟨m,hm⟩ : ∃ m,bs.length = m:=⟨_,rfl⟩
   rw [hm] at hn
   subst hn
   have i1:IntKind.i64.wrap ((k:Int) + 1 - 1) = (k:Int):=by simp [IntKind.wrap,IntKind.bits,IntKind.signed]; omega
   have i2:IntKind.i64.wrap (k:Int) = (k:Int):=by simp [IntKind.wrap,IntKind.bits,IntKind.signed]; omega
   have HKC:=Lib.hid hkc
   have HM:=Lib.hid hm
   have HB:=Lib.hid hb
   have HT:=Lib.hid ht
   have HG:=Lib.hid (hg.symm.trans e1)
   have HS:=Lib.hid e2
   have HE:=Lib.hid eT2
   clear hb hbb hg e1 e2 e3 ht eT eT2 hcount hkc hm hcn
   go_enter Tryz.func105,Tryz.ntmps105
   go_upto_region 4 with (first
    | (go_at_call 111; ((with_reducible refine zf.mono ?_); rintro e w3 ⟨rfl,g⟩; replace H:=H.quiet g; clear g)))
   clear zf
   have a2:=H.head.1.sub bs
   rw [HS.out] at a2
   have b2:=blk_cell a2.1 2 (cellsJ_2 c (some x) l2.ptr r2.ptr)
   have b3:=blk_cell a2.1 3 (cellsJ_3 c (some x) l2.ptr r2.ptr)
   have f2:=blk_free a2.1 2
   have f3:=blk_free a2.1 3
   obtain ⟨T1,H1,hr1,hs1,C,hC,ht1,ht2⟩:=H.setAt HS.out none
   simp only [Option.isSome_none,Option.getD_none] at H1
   have hr2:rootB T1 = some (A,some ((k:Int) + 1)):=by rw [hr1,HE.out]; rfl
   obtain ⟨v1,l1,r1,rfl⟩:=rootB_node hr2
   have HN:Hid ((TB.node A (some ((k:Int) + 1)) v1 l1 r1).sub bs ≠ .nil):=Lib.hid (by rw [hs1]; simp)
   have HGD:Hid (∀ cs,(TB.node A (some ((k:Int) + 1)) v1 l1 r1).tr.get cs = (t.del bs).get cs):=Lib.hid fun cs => by
    rw [Tr.get_del,ht2]
    by_cases q:cs = bs
    · rw [if_pos q,q]
      have:=get_plug C (.node none l2.tr r2.tr) []
      rw [List.append_nil,hC] at this
      exact this
    · rw [if_neg q,← HT.out.get cs,ht1]
      exact getPlug_other C _ _ [] (fun c h => by cases c with | nil => exact absurd rfl h | cons b c => rfl) cs (by rw [List.append_nil,hC]; exact q)
   have HLM:Hid ((TB.node A (some ((k:Int) + 1)) v1 l1 r1).tr.Lim 257):=Lib.hid (by
    rw [ht2]; exact limPlug C (ht1 ▸ HT.out.lim))
   have zp:=fun w1 (K:Own V w1 (treeT (.node A (some ((k:Int) + 1)) v1 l1 r1) :: R)) => jprune_c key hk bs 0 A (some ((k:Int) + 1)) v1 l1 r1 (fun j d h => by
    have hj:=(List.getElem?_eq_some_iff.1 h).1
    have q:=HB.out.at_ j hj
    rw [h] at q
    injection q with q
    rw [Nat.zero_add]
    exact ⟨by have:=HB.out.long; omega,by rw [q]; exact (bit_toNat key j).symm⟩) (by have:=HB.out.few; omega) HN.out K m (by rw [HM.out,Nat.zero_add])
   have ZP:Hid (∀ w1 (K:Own V w1 (treeT (.node A (some ((k:Int) + 1)) v1 l1 r1) :: R)),Calls Tryz.prog 112 #[.pointer (some ⟨A,0,none⟩),.string key,.int .i64 0,.int .i64 (m:Int)] w1 fun e w' => e = .returned (.tuple #[]) ∧ ∃ T',Own V w' (treeT T' :: R) ∧ rootB T' = some (A,some ((k:Int) + 1)) ∧ T'.tr = (Tr.node v1 l1.tr r1.tr).prune bs):=Lib.hid zp
   clear zp a2 hr1 hr2 hs1 hC ht1 ht2 H
   go_upto_region 6 with (first
    | (go_at_call 112; ((with_reducible refine (ZP.out _ H1).mono ?_); rintro e w4 ⟨rfl,T2,H2,hr,ht⟩)))
   obtain ⟨v3,l3,r3,rfl⟩:=rootB_node hr
   have HTT:=Lib.hid ht
   have cA:=blk_cell H2.head.1.1 4 (cellsJ_4 ((k:Int) + 1) v3 l3.ptr r3.ptr)
   have fA:=blk_free H2.head.1.1 4
   have H3:=H2.setCnt (m:=(k:Int))
   clear hr ht
   go_wp2
   go_ret
   refine ⟨rfl,_,⟨⟨v3,l3,r3,by rw [HKC.out]⟩,fun cs => ?_,?_⟩,H3⟩
   · show (TB.node A (some ((k:Int) + 1)) v3 l3 r3).tr.get cs = _
     rw [HTT.out,Tr.get_prune]
     exact HGD.out cs
   · show (TB.node A (some ((k:Int) + 1)) v3 l3 r3).tr.Lim 257
     rw [HTT.out]
     exact Tr.lim_prune _ _ _ HLM.out
theorem wpList_index {P:Program} {ops:Array Oper} {rest:List Oper} {op:Oper} {a:Act} {w:World} {Q:Exit → Act → World → Prop} (hgd:op.guard = none) (t:TypeId) (x i:Operand) (hop:op.op = .index t x i)
 {vx vi v:Value} (hx:a.eval x = vx) (hi:a.eval i = vi) (hrun:(Instr.index t vx vi).run P w = .ok v w) (h:wpList P ops Q rest (a.put op.dst v) w):wpList P ops Q (op :: rest) a w:=by
 subst hx hi
 refine wpList_plain hgd fun _ hK => ?_
 have hh:=hK _ _ h
 unfold Oper.wp execOp
 simp only [hop,Sem.run_bind,hrun,Result.andThen_ok,Sem.run_pure]
 exact hh
theorem run_index0 (p q:Value) (w:World):(Instr.index 126 (.agg #[p,q]) (.int .i64 0)).run Tryz.prog w = .ok p w:=by kernel_rfl
theorem run_index1 (p q:Value) (w:World):(Instr.index 126 (.agg #[p,q]) (.int .i64 1)).run Tryz.prog w = .ok q w:=by kernel_rfl
theorem twin_nil {w:World} : Calls Tryz.prog 116 #[.pointer none] w fun e w' => e = .returned (.pointer none) ∧ Wider w w':=by
 go_enter Tryz.func116,Tryz.ntmps116
 go_wp2
 go_ret
 exact ⟨rfl,Wider.refl w⟩
def TwinsJ (s:TB):Prop:=∀ (V w:World) (R:List Thing),s.At V → Own V w R → Calls Tryz.prog 116 #[s.ptr] w fun e w' => ∃ s' q,e = .returned (.pointer q) ∧ Own V w' (treeT s' :: R) ∧ s'.ptr = .pointer q ∧ s'.tr = s.tr
set_option maxRecDepth 20000 in
theorem jtwin_c:∀ s:TB,TwinsJ s
 | .nil => fun V w R _ H => twin_nil.mono fun e w' ⟨he,g⟩ => ⟨.nil,none,he,(H.quiet g).noTree,rfl,rfl⟩
 | .node B cn v l r => by
   have il:=Lib.hid (jtwin_c l)
   have ir:=Lib.hid (jtwin_c r)
   intro V w R hat H
   have e0:(TB.node B cn v l r).ptr = .pointer (some ⟨B,0,none⟩):=rfl
   rw [e0]
   have hB:=(wheap H.wider ((Array.getElem?_eq_some_iff.1 hat.1).1)).trans hat.1
   have c2:=blk_cell hB 2 (cellsJ_2 cn v l.ptr r.ptr)
   have c3:=blk_cell hB 3 (cellsJ_3 cn v l.ptr r.ptr)
   obtain ⟨pl,hpl⟩ : ∃ pl,l.ptr = pl:=⟨_,rfl⟩
   obtain ⟨pr,hpr⟩ : ∃ pr,r.ptr = pr:=⟨_,rfl⟩
   have HL:=Lib.hid hat.2.1
   have HR:=Lib.hid hat.2.2
   have HLT:=Lib.hid (Array.getElem?_eq_some_iff.1 hat.1).1
   have HBB:=Lib.hid hat.1
   have HPL:=Lib.hid hpl
   have HPR:=Lib.hid hpr
   obtain ⟨x,hx⟩ : ∃ x,v.getD 0 = x:=⟨_,rfl⟩
   obtain ⟨b,hb⟩ : ∃ b,v.isSome = b:=⟨_,rfl⟩
   rw [hx] at c2
   rw [hb] at c3
   have H0:Own V (w.alloc (.cells #[.pointer none,.pointer none,.int .i64 x,.bool b] 128)).drew (nodeT w.heap.size none v (.pointer none) (.pointer none) :: treeT .nil :: treeT .nil :: R):=by
    have q:=((H.blk (cellsJ none v (.pointer none) (.pointer none)) 128).noTree.noTree.third).quiet (Wider.refl _).drew
    have e:cellsJ none v (.pointer none) (.pointer none) = #[.pointer none,.pointer none,.int .i64 x,.bool b]:=by rw [← hx,← hb]; rfl
    have q:Own V (w.alloc (.cells (cellsJ none v (.pointer none) (.pointer none)) 128)).drew (nodeT w.heap.size none v (.pointer none) (.pointer none) :: treeT .nil :: treeT .nil :: R):=q
    rw [e] at q
    exact q
   obtain ⟨W,hW⟩ : ∃ W,(w.alloc (.cells #[.pointer none,.pointer none,.int .i64 x,.bool b] 128)).drew = W:=⟨_,rfl⟩
   obtain ⟨N,hN⟩ : ∃ N,w.heap.size = N:=⟨_,rfl⟩
   rw [hW,hN] at H0
   have hB2:=(wheap H0.wider HLT.out).trans HBB.out
   have d0:=blk_cell hB2 0 (cellsJ_0 cn v l.ptr r.ptr)
   have d1:=blk_cell hB2 1 (cellsJ_1 cn v l.ptr r.ptr)
   rw [hpl] at d0
   rw [hpr] at d1
   have HIN:Hid (nodeT w.heap.size none v (.pointer none) (.pointer none) = nodeT N none v (.pointer none) (.pointer none)):=Lib.hid (by rw [hN])
   clear hat hB hB2 e0 hpl hpr hx hb H HIN
   go_enter Tryz.func116,Tryz.ntmps116
   go_upto_region 3 with (fail)
   go_region_law (fail)
   all_goals
    try rw [hW]
    try rw [hN]
    go_wp2
    go_loopw [22] (fun i wr => ∃ (l' r':TB) (ql qr:Option Addr),Own V wr (nodeT N none v (.pointer ql) (.pointer qr) :: treeT l' :: treeT r' :: R) ∧ l'.ptr = .pointer ql ∧ r'.ptr = .pointer qr ∧ (i = .int .i64 0 ∧ l' = .nil ∧ r' = .nil ∨ i = .int .i64 1 ∧ l'.tr = l.tr ∧ r' = .nil ∨ i = .int .i64 2 ∧ l'.tr = l.tr ∧ r'.tr = r.tr)) (fun i _ => 2 - (intOf i).toNat)
    case atStart => exact ⟨.nil,.nil,none,none,H0,rfl,rfl,.inl ⟨rfl,rfl,rfl⟩⟩
    case round =>
     clear H0 d0 d1
     obtain ⟨l',r',ql,qr,H1,hql,hqr,⟨rfl,hst⟩ | ⟨rfl,hst⟩ | ⟨rfl,hst⟩⟩:=hrel
     · obtain ⟨hl0,rfl⟩:=hst
       obtain rfl:=hl0
       have zi:=fun w1 R1 (K:Own V w1 R1) => il.out V w1 R1 HL.out K
       rw [HPL.out] at zi
       have ZI:=Lib.hid zi
       have K1:=(H1.swap.drop).quiet (Wider.refl wr).drew
       clear zi H1
       go_upto_region 7 with (first
        | (with_reducible refine wpList_index rfl 126 (.tmp 21) (.tmp 22) rfl (vx:=.agg #[pl,pr]) (vi:=.int .i64 0) rfl rfl (run_index0 _ _ _) ?_))
       go_region_law (first
        | (go_simp; go_at_call 116; ((with_reducible refine (ZI.out _ _ K1).mono ?_); rintro e w4 ⟨s2,q,rfl,H2,hsp,hst2⟩; have d0:=blk_cell H2.second 0 (cellsJ_0 none v _ _); have f0:=blk_free H2.second 0)))
       all_goals
        have H3:=(H2.swap.store 0 (.pointer q))
        rw [cellsJ_set0] at H3
        have HSP:=Lib.hid hsp
        have HST:=Lib.hid hst2
        clear d0 f0 H2 hsp hst2
        go_wp2
        go_roundw
        case rel => have hsp:=HSP.out; have hst2:=HST.out; exact ⟨s2,.nil,q,qr,H3,hsp,hqr,.inr (.inl ⟨rfl,hst2,rfl⟩)⟩
        case measure => simp [intOf]
     · obtain ⟨hl0,rfl⟩:=hst
       have HTL:=Lib.hid hl0
       clear hl0
       have zi:=fun w1 R1 (K:Own V w1 R1) => ir.out V w1 R1 HR.out K
       rw [HPR.out] at zi
       have ZI:=Lib.hid zi
       have K1:=((H1.swap2.swap).drop).quiet (Wider.refl wr).drew
       clear zi H1
       go_upto_region 7 with (first
        | (with_reducible refine wpList_index rfl 126 (.tmp 21) (.tmp 22) rfl (vx:=.agg #[pl,pr]) (vi:=.int .i64 1) rfl rfl (run_index1 _ _ _) ?_))
       go_region_law (first
        | (go_simp; go_at_call 116; ((with_reducible refine (ZI.out _ _ K1).mono ?_); rintro e w4 ⟨s2,q,rfl,H2,hsp,hst2⟩; have d0:=blk_cell H2.second 1 (cellsJ_1 none v _ _); have f0:=blk_free H2.second 1)))
       all_goals
        have H3:=(H2.swap.store 1 (.pointer q)).swap2
        rw [cellsJ_set1] at H3
        have HSP:=Lib.hid hsp
        have HST:=Lib.hid hst2
        clear d0 f0 H2 hsp hst2
        go_wp2
        go_roundw
        case rel => have hsp:=HSP.out; have hst2:=HST.out; exact ⟨l',s2,ql,q,H3,hql,hsp,.inr (.inr ⟨rfl,HTL.out,hst2⟩)⟩
        case measure => simp [intOf]
     · have HTL:=Lib.hid hst
       have H2:=H1.treeShut hql hqr
       clear hst H1 hql hqr
       go_wp2
       go_ret
       exact ⟨_,_,rfl,H2,rfl,by show Tr.node v l'.tr r'.tr = Tr.node v l.tr r.tr; rw [HTL.out.1,HTL.out.2]⟩
theorem tr_node {s:TB} {v:Option Int} {l r:Tr} (h:s.tr = .node v l r):∃ N c l2 r2,s = .node N c v l2 r2 ∧ l2.tr = l ∧ r2.tr = r:=by
 cases s with
 | nil => cases h
 | node N c v2 l2 r2 =>
   have h:Tr.node v2 l2.tr r2.tr = .node v l r:=h
   injection h with h1 h2 h3
   subst h1
   exact ⟨N,c,l2,r2,rfl,h2,h3⟩
theorem ptr_is (s:TB):∃ q,s.ptr = .pointer q:=by cases s <;> exact ⟨_,rfl⟩
theorem twin_root {V w:World} {R:List Thing} {s:TB} {q:Option Addr} {A:Nat} {c':Option Int} {v:Option Int} {l r:TB} (H:Own V w (treeT s :: R)) (hq:s.ptr = .pointer q) (ht:s.tr = (TB.node A c' v l r).tr) :
 ∃ (N:Nat) (ql qr:Option Addr) (l2 r2:TB),q = some ⟨N,0,none⟩ ∧ w.cell? ⟨N,0,none⟩ = some (.pointer ql) ∧ w.cell? ⟨N,1,none⟩ = some (.pointer qr) ∧ w.cell? ⟨N,2,none⟩ = some (.int .i64 (v.getD 0)) ∧ w.cell? ⟨N,3,none⟩ = some (.bool v.isSome) ∧
   Hid (Own V w (treeT l2 :: treeT r2 :: R)) ∧ Hid (l2.ptr = .pointer ql ∧ r2.ptr = .pointer qr ∧ l2.tr = l.tr ∧ r2.tr = r.tr):=by
 obtain ⟨N,c2,l2,r2,rfl,e1,e2⟩:=tr_node ht
 obtain ⟨ql,hql⟩:=ptr_is l2
 obtain ⟨qr,hqr⟩:=ptr_is r2
 have hq:Value.pointer (some ⟨N,0,none⟩) = .pointer q:=hq
 injection hq with hq
 have H1:=H.treeOpen
 have b:=H1.head
 refine ⟨N,ql,qr,l2,r2,hq.symm,?_,?_,blk_cell b 2 (cellsJ_2 _ _ _ _),blk_cell b 3 (cellsJ_3 _ _ _ _),Lib.hid H1.drop,Lib.hid ⟨hql,hqr,e1,e2⟩⟩
 · rw [← hql]; exact blk_cell b 0 (cellsJ_0 _ _ _ _)
 · rw [← hqr]; exact blk_cell b 1 (cellsJ_1 _ _ _ _)
theorem copy_done {A B:Nat} {t:Tr} {v:Option Int} {l r l2 r2:TB} {c:Int} (ht:IsTrie A t (.node A (some c) v l r)) (hc:(t.count:Int) = c) (e1:l2.tr = l.tr) (e2:r2.tr = r.tr):IsTrie B t (.node B (some c) v l2 r2):=by
 have e:(TB.node B (some c) v l2 r2).tr = (TB.node A (some c) v l r).tr:=by show Tr.node v l2.tr r2.tr = Tr.node v l.tr r.tr; rw [e1,e2]
 exact ⟨⟨v,l2,r2,by rw [hc]⟩,fun bs => by rw [e]; exact ht.get bs,by rw [e]; exact ht.lim⟩
theorem jcopy_c {A:Nat} {t:Tr} {T:TB} (ht:IsTrie A t T) {V w:World} {R:List Thing} (h:T.At V) (H:Own V w R) :
 Calls Tryz.prog 110 #[.pointer (some ⟨A,0,none⟩)] w fun e w' => ∃ B T',e = .returned (.pointer (some ⟨B,0,none⟩)) ∧ IsTrie B t T' ∧ Own V w' (treeT T' :: R):=by
 obtain ⟨v,l,r,eT⟩:=ht.root
 obtain ⟨c,hc⟩ : ∃ c:Int,(t.count:Int) = c:=⟨_,rfl⟩
 rw [hc] at eT
 subst eT
 have zt:=fun w1 (K:Own V w1 R) => jtwin_c _ V w1 R h K
 have e0:(TB.node A (some c) v l r).ptr = .pointer (some ⟨A,0,none⟩):=rfl
 rw [e0] at zt
 have ZT:=Lib.hid zt
 have HV:=Lib.hid h.1
 have HLT:=Lib.hid (Array.getElem?_eq_some_iff.1 h.1).1
 have HT:=Lib.hid ht
 have HC:=Lib.hid hc
 have c4:=blk_cell ((wheap H.wider HLT.out).trans HV.out) 4 (cellsJ_4 c v l.ptr r.ptr)
 obtain ⟨x,hx⟩ : ∃ x,v.getD 0 = x:=⟨_,rfl⟩
 obtain ⟨b,hb⟩ : ∃ b,v.isSome = b:=⟨_,rfl⟩
 have HXB:Hid (∀ p q:Value,cellsJ (some c) v p q = #[p,q,.int .i64 x,.bool b,.int .i64 c]):=Lib.hid fun p q => by rw [← hx,← hb]; rfl
 have HX:=Lib.hid hx
 have HB:=Lib.hid hb
 have K1:=H.quiet (Wider.refl w).drew
 clear zt h ht H hc e0 hx hb
 go_enter Tryz.func110,Tryz.ntmps110
 go_upto_region 3 with (fail)
 go_region_law (first
  | (go_simp; go_at_call 116; ((with_reducible refine (ZT.out _ K1).mono ?_); rintro e w4 ⟨s2,q,rfl,H2,hsp,hst2⟩; (have d4:=blk_cell ((wheap H2.wider HLT.out).trans HV.out) 4 (cellsJ_4 c v l.ptr r.ptr)); obtain ⟨N,ql,qr,l2,r2,rfl,d0,d1,d2,d3,H3,H4⟩:=twin_root H2 hsp hst2; (rw [HX.out] at d2); (rw [HB.out] at d3); clear H2 hsp hst2)))
 all_goals
  have H5:=(H3.out.blk (cellsJ (some c) v (.pointer ql) (.pointer qr)) 130).treeShut (c:=some c) (v:=v) H4.out.1 H4.out.2.1
  rw [HXB.out] at H5
  go_wp2
  go_ret
  exact ⟨_,_,rfl,copy_done HT.out HC.out H4.out.2.2.1 H4.out.2.2.2,H5⟩
end Go.Proofs.YtbnpelciceblfaaGreat
