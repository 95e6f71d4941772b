/- JCodeD JCodeE JCodeF -/
import Derived.Test.YtbnpelciceblfaaGreatW19
namespace Go.Proofs.YtbnpelciceblfaaGreat
set_option linter.unusedVariables false
open Go.ChangeShapes Go.WideShapes Go.ChangeAt Go.RowKit Go.Joins
set_option maxHeartbeats 64000000
theorem clean_is (v:Option Int) (l r:Tr):(Tr.node v l r).clean = if (v.isNone && (l.isNil && r.isNil)) = true then .nil else .node v l r:=by
 cases v <;> cases l <;> cases r <;> rfl
theorem jprune_c (key:ByteArray) (hk:key.size < 1000000):∀ (rest:List Bool) (a:Nat) (B:Nat) (cn v:Option Int) (l r:TB) {V w:World} {R:List Thing},(∀ j d,rest[j]? = some d → a + j < 8 * key.size ∧ bitS key (a + j) = d.toNat) → a + rest.length ≤ 256 → (TB.node B cn v l r).sub rest ≠ .nil →
 Own V w (treeT (.node B cn v l r) :: R) → ∀ (m:Nat),m = a + rest.length →
 Calls Tryz.prog 112 #[.pointer (some ⟨B,0,none⟩),.string key,.int .i64 (a:Int),.int .i64 (m:Int)] w fun e w' => e = .returned (.tuple #[]) ∧ ∃ T',Own V w' (treeT T' :: R) ∧ rootB T' = some (B,cn) ∧ T'.tr = (Tr.node v l.tr r.tr).prune rest
 | [],a,B,cn,v,l,r,V,w,R,hbit,h256,hsub,H,m,hm => by
   have e1:((a:Int) == (m:Int)) = true:=by rw [beq_iff_eq,hm]; simp
   clear hm hsub hbit
   go_enter Tryz.func112,Tryz.ntmps112
   go_wp2
   simp [bodyPost,results,Tryz.results112]
   exact ⟨_,H,rfl,rfl⟩
 | false :: rest,a,B,cn,v,l,r,V,w,R,hbit,h256,hsub,H,m,hm => by
   have hm2:m = (a + 1) + rest.length:=by rw [hm,List.length_cons]; omega
   rw [List.length_cons] at h256 hm
   have e1:((a:Int) == (m:Int)) = false:=by rw [beq_eq_false_iff_ne]; omega
   obtain ⟨b0,b1⟩:=hbit 0 false rfl
   rw [Nat.add_zero] at b0 b1
   have zb:∀ w,Calls Tryz.prog 117 #[.string key,.int .i64 (a:Int)] w fun e w' => e = .returned (.tuple #[.int .u64 0,.bool true]) ∧ Wider w w':=fun w => jbit_c key a hk (by omega) (l:=0) (is:=true) (by unfold bitN; rw [if_pos b0,b1]; rfl) (by simp [b0]) w
   have i1:IntKind.i64.wrap ((a:Int) + 1) = (a:Int) + 1:=by simp [IntKind.wrap,IntKind.bits,IntKind.signed]; omega
   have hs2:l.sub rest ≠ .nil:=hsub
   have H1:=H.treeOpen
   clear H hsub
   cases l with
   | nil => exact absurd (show TB.nil.sub rest = .nil by cases rest <;> rfl) hs2
   | node B2 c2 v2 l2 r2 =>
     have c0:w.cell? ⟨B,0,none⟩ = some (.pointer (some ⟨B2,0,none⟩)):=blk_cell H1.head 0 (cellsJ_0 cn v _ _)
     have H2:=H1.swap
     have ih:=fun w1 (R1:List Thing) (K:Own V w1 (treeT (.node B2 c2 v2 l2 r2) :: R1)) => jprune_c key hk rest (a + 1) B2 c2 v2 l2 r2 (fun j d h => by have:=hbit (j + 1) d h; rw [Nat.add_assoc,Nat.add_comm 1 j]; exact this) (by omega) hs2 K m hm2
     have IH:Hid (∀ (w1:World) (R1:List Thing),Own V w1 (treeT (.node B2 c2 v2 l2 r2) :: R1) → Calls Tryz.prog 112 #[.pointer (some ⟨B2,0,none⟩),.string key,.int .i64 ((a:Int) + 1),.int .i64 (m:Int)] w1 fun e w' => e = .returned (.tuple #[]) ∧ ∃ T',Own V w' (treeT T' :: R1) ∧ rootB T' = some (B2,c2) ∧ T'.tr = (Tr.node v2 l2.tr r2.tr).prune rest):=Lib.hid ih
     clear ih hbit hm hm2 hs2 b0 b1 H1
     go_enter Tryz.func112,Tryz.ntmps112
     go_upto_region 3 with (first
      | (go_at_call 117; ((with_reducible refine (zb _).mono ?_); rintro e w3 ⟨rfl,g⟩; replace c0:=wkeep g c0; replace H2:=H2.quiet g; clear g))
      | (go_at_call 112; ((with_reducible refine (IH.out _ _ H2).mono ?_); rintro e w4 ⟨rfl,T2,H3,hr,ht⟩)))
     obtain ⟨v3,l3,r3,rfl⟩:=rootB_node hr
     have ht:Tr.node v3 l3.tr r3.tr = (Tr.node v2 l2.tr r2.tr).prune rest:=ht
     have HTT:=Lib.hid ht
     have d0:w4.cell? ⟨B,0,none⟩ = some (.pointer (some ⟨B2,0,none⟩)):=blk_cell H3.second 0 (cellsJ_0 cn v _ _)
     obtain ⟨b,hb⟩ : ∃ b,(v3.isNone && (l3.tr.isNil && r3.tr.isNil)) = b:=⟨_,rfl⟩
     have ze:=jempty_c H3.head.1.1 hb
     have HB:=Lib.hid (clean_is v3 l3.tr r3.tr)
     rw [hb] at HB
     clear c0 H2 IH hr ht zb hb
     cases b with
     | false =>
       go_wp2_with (first
        | (go_at_call 118; ((with_reducible refine ze.mono ?_); rintro e w5 ⟨rfl,g⟩; replace H3:=H3.quiet g; clear g)))
       simp [bodyPost,results,Tryz.results112]
       refine ⟨_,(H3.swap).treeShut (l:=.node B2 c2 v3 l3 r3) (r:=r) rfl rfl,rfl,?_⟩
       show Tr.node v (.node v3 l3.tr r3.tr) r.tr = Tr.node v ((Tr.node v2 l2.tr r2.tr).prune rest).clean r.tr
       rw [← HTT.out,HB.out]; rfl
     | true =>
       have H4:=(H3.drop).store 0 (.pointer none)
       rw [cellsJ_set0] at H4
       have HW:=Lib.hid H3
       go_upto_region 4 with (first
        | (go_at_call 118; ((with_reducible refine ze.mono ?_); rintro e w5 ⟨rfl,g⟩; replace H3:=H3.quiet g; clear g)))
       have f0:=blk_free H3.second 0
       have d1:w5.cell? ⟨B,0,none⟩ = some (.pointer (some ⟨B2,0,none⟩)):=blk_cell H3.second 0 (cellsJ_0 cn v _ _)
       have H5:=(H3.drop).store 0 (.pointer none)
       rw [cellsJ_set0] at H5
       go_wp2
       simp [bodyPost,results,Tryz.results112]
       refine ⟨_,(H5.noTree.swap).treeShut (l:=.nil) (r:=r) rfl rfl,rfl,?_⟩
       show Tr.node v .nil r.tr = Tr.node v ((Tr.node v2 l2.tr r2.tr).prune rest).clean r.tr
       rw [← HTT.out,HB.out]; rfl
 | true :: rest,a,B,cn,v,l,r,V,w,R,hbit,h256,hsub,H,m,hm => by
   have hm2:m = (a + 1) + rest.length:=by rw [hm,List.length_cons]; omega
   rw [List.length_cons] at h256 hm
   have e1:((a:Int) == (m:Int)) = false:=by rw [beq_eq_false_iff_ne]; omega
   obtain ⟨b0,b1⟩:=hbit 0 true rfl
   rw [Nat.add_zero] at b0 b1
   have zb:∀ w,Calls Tryz.prog 117 #[.string key,.int .i64 (a:Int)] w fun e w' => e = .returned (.tuple #[.int .u64 1,.bool true]) ∧ Wider w w':=fun w => jbit_c key a hk (by omega) (l:=1) (is:=true) (by unfold bitN; rw [if_pos b0,b1]; rfl) (by simp [b0]) w
   have i1:IntKind.i64.wrap ((a:Int) + 1) = (a:Int) + 1:=by simp [IntKind.wrap,IntKind.bits,IntKind.signed]; omega
   have hs2:r.sub rest ≠ .nil:=hsub
   have H1:=H.treeOpen
   clear H hsub
   cases r with
   | nil => exact absurd (show TB.nil.sub rest = .nil by cases rest <;> rfl) hs2
   | node B2 c2 v2 l2 r2 =>
     have c0:w.cell? ⟨B,1,none⟩ = some (.pointer (some ⟨B2,0,none⟩)):=blk_cell H1.head 1 (cellsJ_1 cn v _ _)
     have H2:=H1.third
     have ih:=fun w1 (R1:List Thing) (K:Own V w1 (treeT (.node B2 c2 v2 l2 r2) :: R1)) => jprune_c key hk rest (a + 1) B2 c2 v2 l2 r2 (fun j d h => by have:=hbit (j + 1) d h; rw [Nat.add_assoc,Nat.add_comm 1 j]; exact this) (by omega) hs2 K m hm2
     have IH:Hid (∀ (w1:World) (R1:List Thing),Own V w1 (treeT (.node B2 c2 v2 l2 r2) :: R1) → Calls Tryz.prog 112 #[.pointer (some ⟨B2,0,none⟩),.string key,.int .i64 ((a:Int) + 1),.int .i64 (m:Int)] w1 fun e w' => e = .returned (.tuple #[]) ∧ ∃ T',Own V w' (treeT T' :: R1) ∧ rootB T' = some (B2,c2) ∧ T'.tr = (Tr.node v2 l2.tr r2.tr).prune rest):=Lib.hid ih
     clear ih hbit hm hm2 hs2 b0 b1 H1
     go_enter Tryz.func112,Tryz.ntmps112
     go_upto_region 3 with (first
      | (go_at_call 117; ((with_reducible refine (zb _).mono ?_); rintro e w3 ⟨rfl,g⟩; replace c0:=wkeep g c0; replace H2:=H2.quiet g; clear g))
      | (go_at_call 112; ((with_reducible refine (IH.out _ _ H2).mono ?_); rintro e w4 ⟨rfl,T2,H3,hr,ht⟩)))
     obtain ⟨v3,l3,r3,rfl⟩:=rootB_node hr
     have ht:Tr.node v3 l3.tr r3.tr = (Tr.node v2 l2.tr r2.tr).prune rest:=ht
     have HTT:=Lib.hid ht
     have d0:w4.cell? ⟨B,1,none⟩ = some (.pointer (some ⟨B2,0,none⟩)):=blk_cell H3.second 1 (cellsJ_1 cn v _ _)
     obtain ⟨b,hb⟩ : ∃ b,(v3.isNone && (l3.tr.isNil && r3.tr.isNil)) = b:=⟨_,rfl⟩
     have ze:=jempty_c H3.head.1.1 hb
     have HB:=Lib.hid (clean_is v3 l3.tr r3.tr)
     rw [hb] at HB
     clear c0 H2 IH hr ht zb hb
     cases b with
     | false =>
       go_wp2_with (first
        | (go_at_call 118; ((with_reducible refine ze.mono ?_); rintro e w5 ⟨rfl,g⟩; replace H3:=H3.quiet g; clear g)))
       simp [bodyPost,results,Tryz.results112]
       refine ⟨_,(H3.swap.swap2).treeShut (l:=l) (r:=.node B2 c2 v3 l3 r3) rfl rfl,rfl,?_⟩
       show Tr.node v l.tr (.node v3 l3.tr r3.tr) = Tr.node v l.tr ((Tr.node v2 l2.tr r2.tr).prune rest).clean
       rw [← HTT.out,HB.out]; rfl
     | true =>
       have H4:=(H3.drop).store 1 (.pointer none)
       rw [cellsJ_set1] at H4
       have HW:=Lib.hid H3
       go_upto_region 4 with (first
        | (go_at_call 118; ((with_reducible refine ze.mono ?_); rintro e w5 ⟨rfl,g⟩; replace H3:=H3.quiet g; clear g)))
       have f0:=blk_free H3.second 1
       have d1:w5.cell? ⟨B,1,none⟩ = some (.pointer (some ⟨B2,0,none⟩)):=blk_cell H3.second 1 (cellsJ_1 cn v _ _)
       have H5:=(H3.drop).store 1 (.pointer none)
       rw [cellsJ_set1] at H5
       go_wp2
       simp [bodyPost,results,Tryz.results112]
       refine ⟨_,(H5.noTree.swap.swap2).treeShut (l:=l) (r:=.nil) rfl rfl,rfl,?_⟩
       show Tr.node v l.tr .nil = Tr.node v l.tr ((Tr.node v2 l2.tr r2.tr).prune rest).clean
       rw [← HTT.out,HB.out]; rfl
theorem getPlug_other:∀ (C:List Fr) (s u:Tr) (q:List Bool),(∀ c,c ≠ q → s.get c = u.get c) → ∀ c,c ≠ pathJ C ++ q → (trPlug C s).get c = (trPlug C u).get c
 | [],s,u,q,h,c,hc => h c hc
 | f :: C,s,u,q,h,c,hc => by
   refine getPlug_other C _ _ (f.d :: q) (fun c2 h2 => ?_) c (by
    have e:pathJ (f :: C) ++ q = pathJ C ++ f.d :: q:=by show (pathJ C ++ [f.d]) ++ q = _; rw [List.append_assoc]; rfl
    rw [← e]; exact hc)
   cases hd:f.d <;> rw [hd] at h2
   · cases c2 with
     | nil => rfl
     | cons b c2 =>
       cases b
       · exact h c2 (fun e => h2 (by rw [e]))
       · rfl
   · cases c2 with
     | nil => rfl
     | cons b c2 =>
       cases b
       · rfl
       · exact h c2 (fun e => h2 (by rw [e]))
theorem limPlug:∀ (C:List Fr) {v y:Option Int} {l r:Tr} {n:Nat},(trPlug C (.node v l r)).Lim n → (trPlug C (.node y l r)).Lim n
 | [],v,y,l,r,n,h => h
 | f :: C,v,y,l,r,n,h => by
   have key:∀ (C:List Fr) {s u:Tr} {n:Nat},(∀ m,s.Lim m → u.Lim m) → (trPlug C s).Lim n → (trPlug C u).Lim n:=by
    intro C
    induction C with
    | nil => intro s u n h1 h2; exact h1 n h2
    | cons f C ih =>
      intro s u n h1 h2
      refine ih (s:=if f.d then .node f.v f.s.tr s else .node f.v s f.s.tr) (fun m h3 => ?_) h2
      cases hd:f.d <;> rw [hd] at h3
      · obtain ⟨k,e,a1,a2⟩:=h3
        exact ⟨k,e,h1 k a1,a2⟩
      · obtain ⟨k,e,a1,a2⟩:=h3
        exact ⟨k,e,a1,h1 k a2⟩
   exact key (f :: C) (s:=.node v l r) (u:=.node y l r) (fun m h3 => h3) h
theorem jdel_c {key:ByteArray} {bs:List Bool} (hb:IsKey key bs) {n:Int} (hn:n = (bs.length:Int)) {A:Nat} {t:Tr} {T:TB} (ht:IsTrie A t T) (hcn:t.count < 1000000) {V w:World} {R:List Thing} (H:Own V w (treeT T :: R)) {b:Bool} (hbb:(t.get bs).isSome = b) :
 Calls Tryz.prog 105 #[.pointer (some ⟨A,0,none⟩),.string key,.int .i64 n] w fun e w' => e = .returned (.bool b) ∧ ∃ T',IsTrie A (t.del bs) T' ∧ Own V w' (treeT T' :: R):=by
 obtain ⟨v,l,r,eT⟩:=ht.root
 have zf:=jfind_c hb hn (eT ▸ H.head.1)
 rw [← eT] at zf
 have hg:=ht.get bs
 rcases got_sub (T:=T) (bs:=bs) with ⟨e1,e2⟩ | ⟨x,B,c,l2,r2,e1,e2,e3⟩
 · rw [e2] at zf
   have zf:Calls Tryz.prog 111 #[.pointer (some ⟨A,0,none⟩),.string key,.int .i64 n] w fun e w' => e = .returned (.pointer none) ∧ Wider w w':=zf
   obtain rfl:b = false:=by rw [← hbb,← hg,e1]; rfl
   have hdel:IsTrie A (t.del bs) T:=by
    have hcount:(t.del bs).count = t.count:=by
     have:=Tr.count_del t bs
     rw [← hg,e1] at this; simpa using this
    refine ⟨⟨v,l,r,by rw [hcount]; exact eT⟩,fun cs => ?_,ht.lim⟩
    rw [Tr.get_del,ht.get cs]
    by_cases q:cs = bs
    · rw [if_pos q,q,← hg,e1]
    · rw [if_neg q]
   have HD:=Lib.hid hdel
   clear hn hb hbb hg e1 e2 ht hdel eT
   go_enter Tryz.func105,Tryz.ntmps105
   go_wp2_with (first
    | (go_at_call 111; ((with_reducible refine zf.mono ?_); rintro e w3 ⟨rfl,g⟩; replace H:=H.quiet g; clear g)))
   go_ret
   exact ⟨rfl,T,HD.out,H⟩
 · rw [e3] at zf
   have zf:Calls Tryz.prog 111 #[.pointer (some ⟨A,0,none⟩),.string key,.int .i64 n] w fun e w' => e = .returned (.pointer (some ⟨B,0,none⟩)) ∧ Wider w w':=zf
   obtain rfl:b = true:=by rw [← hbb,← hg,e1]; rfl
   have hk:key.size < 1000000:=by have:=hb.size_le; omega
   have hcount:(t.del bs).count + 1 = t.count:=by
    have:=Tr.count_del t bs
    rw [← hg,e1] at this; simpa using this
   obtain ⟨k,hkc⟩ : ∃ k,(t.del bs).count = k:=⟨_,rfl⟩
   have eT2:T = .node A (some ((k:Int) + 1)) v l r:=by rw [eT,← hcount,hkc]; rfl
   obtain ⟨m,hm⟩ : ∃ m,bs.length = m:=⟨_,rfl⟩
   rw [hm] at hn
   subst hn
   have i1:IntKind.i64.wrap ((k:Int) + 1 - 1) = (k:Int):=by simp [IntKind.wrap,IntKind.bits,IntKind.signed]; omega
   have i2:IntKind.i64.wrap (k:Int) = (k:Int):=by simp [IntKind.wrap,IntKind.bits,IntKind.signed]; omega
   have HKC:=Lib.hid hkc
   have HM:=Lib.hid hm
   have HB:=Lib.hid hb
   have HT:=Lib.hid ht
   have HG:=Lib.hid (hg.symm.trans e1)
   have HS:=Lib.hid e2
   have HE:=Lib.hid eT2
   clear hb hbb hg e1 e2 e3 ht eT eT2 hcount hkc hm hcn
   go_enter Tryz.func105,Tryz.ntmps105
   go_upto_region 4 with (first
    | (go_at_call 111; ((with_reducible refine zf.mono ?_); rintro e w3 ⟨rfl,g⟩; replace H:=H.quiet g; clear g)))
   clear zf
   have a2:=H.head.1.sub bs
   rw [HS.out] at a2
   have b2:=blk_cell a2.1 2 (cellsJ_2 c (some x) l2.ptr r2.ptr)
   have b3:=blk_cell a2.1 3 (cellsJ_3 c (some x) l2.ptr r2.ptr)
   have f2:=blk_free a2.1 2
   have f3:=blk_free a2.1 3
   obtain ⟨T1,H1,hr1,hs1,C,hC,ht1,ht2⟩:=H.setAt HS.out none
   simp only [Option.isSome_none,Option.getD_none] at H1
   have hr2:rootB T1 = some (A,some ((k:Int) + 1)):=by rw [hr1,HE.out]; rfl
   obtain ⟨v1,l1,r1,rfl⟩:=rootB_node hr2
   have HN:Hid ((TB.node A (some ((k:Int) + 1)) v1 l1 r1).sub bs ≠ .nil):=Lib.hid (by rw [hs1]; simp)
   have HGD:Hid (∀ cs,(TB.node A (some ((k:Int) + 1)) v1 l1 r1).tr.get cs = (t.del bs).get cs):=Lib.hid fun cs => by
    rw [Tr.get_del,ht2]
    by_cases q:cs = bs
    · rw [if_pos q,q]
      have:=get_plug C (.node none l2.tr r2.tr) []
      rw [List.append_nil,hC] at this
      exact this
    · rw [if_neg q,← HT.out.get cs,ht1]
      exact getPlug_other C _ _ [] (fun c h => by cases c with | nil => exact absurd rfl h | cons b c => rfl) cs (by rw [List.append_nil,hC]; exact q)
   have HLM:Hid ((TB.node A (some ((k:Int) + 1)) v1 l1 r1).tr.Lim 257):=Lib.hid (by
    rw [ht2]; exact limPlug C (ht1 ▸ HT.out.lim))
   have zp:=fun w1 (K:Own V w1 (treeT (.node A (some ((k:Int) + 1)) v1 l1 r1) :: R)) => jprune_c key hk bs 0 A (some ((k:Int) + 1)) v1 l1 r1 (fun j d h => by
    have hj:=(List.getElem?_eq_some_iff.1 h).1
    have q:=HB.out.at_ j hj
    rw [h] at q
    injection q with q
    rw [Nat.zero_add]
    exact ⟨by have:=HB.out.long; omega,by rw [q]; exact (bit_toNat key j).symm⟩) (by have:=HB.out.few; omega) HN.out K m (by rw [HM.out,Nat.zero_add])
   have ZP:Hid (∀ w1 (K:Own V w1 (treeT (.node A (some ((k:Int) + 1)) v1 l1 r1) :: R)),Calls Tryz.prog 112 #[.pointer (some ⟨A,0,none⟩),.string key,.int .i64 0,.int .i64 (m:Int)] w1 fun e w' => e = .returned (.tuple #[]) ∧ ∃ T',Own V w' (treeT T' :: R) ∧ rootB T' = some (A,some ((k:Int) + 1)) ∧ T'.tr = (Tr.node v1 l1.tr r1.tr).prune bs):=Lib.hid zp
   clear zp a2 hr1 hr2 hs1 hC ht1 ht2 H
   go_upto_region 6 with (first
    | (go_at_call 112; ((with_reducible refine (ZP.out _ H1).mono ?_); rintro e w4 ⟨rfl,T2,H2,hr,ht⟩)))
   obtain ⟨v3,l3,r3,rfl⟩:=rootB_node hr
   have HTT:=Lib.hid ht
   have cA:=blk_cell H2.head.1.1 4 (cellsJ_4 ((k:Int) + 1) v3 l3.ptr r3.ptr)
   have fA:=blk_free H2.head.1.1 4
   have H3:=H2.setCnt (m:=(k:Int))
   clear hr ht
   go_wp2
   go_ret
   refine ⟨rfl,_,⟨⟨v3,l3,r3,by rw [HKC.out]⟩,fun cs => ?_,?_⟩,H3⟩
   · show (TB.node A (some ((k:Int) + 1)) v3 l3 r3).tr.get cs = _
     rw [HTT.out,Tr.get_prune]
     exact HGD.out cs
   · show (TB.node A (some ((k:Int) + 1)) v3 l3 r3).tr.Lim 257
     rw [HTT.out]
     exact Tr.lim_prune _ _ _ HLM.out
end Go.Proofs.YtbnpelciceblfaaGreat
