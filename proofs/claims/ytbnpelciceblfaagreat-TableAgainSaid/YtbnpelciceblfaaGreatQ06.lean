/- UCodeD -/
import Derived.Test.YtbnpelciceblfaaGreatQ05
import Derived.Lib.Overlaps
namespace Go.Proofs.YtbnpelciceblfaaGreat
set_option linter.unusedVariables false
open Go.ChangeShapes Go.WideShapes Go.ChangeAt Go.RowKit Go.Joins
set_option maxHeartbeats 64000000
theorem shapeU {w:World} {b:Nat} {C:Array Value} {t:TypeId} (h:w.heap[b]? = some (.cells C t (0,0))):w.shape? b = some (t,C.size):=by
 unfold World.shape?
 rw [h]
theorem ins_room {α:Type} (cur ys zs:List α) (p k:Nat) (hp:p + k ≤ cur.length) (hy:ys.length = k) :
 (cur.take (p + k) ++ zs ++ cur.drop (p + k + zs.length)).take p ++ ys ++ (cur.take (p + k) ++ zs ++ cur.drop (p + k + zs.length)).drop (p + ys.length) = cur.take p ++ ys ++ zs ++ cur.drop (p + k + zs.length):=by
 have l:(cur.take (p + k)).length = p + k:=by rw [List.length_take]; omega
 rw [hy,List.append_assoc (cur.take (p + k)) zs,List.take_append_of_le_length (by omega),List.drop_append_of_le_length (by omega),List.take_take,Nat.min_eq_left (by omega),List.drop_of_length_le (by omega:(cur.take (p + k)).length ≤ p + k)]
 simp
theorem ins_new {α:Type} (C ys zs:List α) (p k:Nat) (hp:p + k ≤ C.length) (hy:ys.length = k) :
 (C.take p ++ ys ++ C.drop (p + ys.length)).take (p + k) ++ zs ++ (C.take p ++ ys ++ C.drop (p + ys.length)).drop (p + k + zs.length) = C.take p ++ ys ++ zs ++ C.drop (p + k + zs.length):=by
 have l:(C.take p).length = p:=by rw [List.length_take]; omega
 have l2:(C.take p ++ ys).length = p + k:=by rw [List.length_append,l,hy]
 have e:(C.take p ++ ys ++ C.drop (p + ys.length)).drop (p + k + zs.length) = C.drop (p + k + zs.length):=by
  rw [← l2,List.drop_append,List.drop_of_length_le (by omega),List.nil_append,List.drop_drop,l2,hy]
  congr 1
  omega
 have e2:(C.take p ++ ys ++ C.drop (p + ys.length)).take (p + k) = C.take p ++ ys:=by
  rw [← l2]; exact List.take_left
 rw [e,e2]
theorem infoUP:(Tryz.prog.info? 207).map (fun i => (i.zero,i.size,i.bytes)) = some (some (.agg #[.string ⟨#[]⟩,.string ⟨#[]⟩,.int .i64 0,.int .i64 0,.int .i64 0]),5,56):=by kernel_rfl
theorem sizeUP:(Tryz.prog.info? 207).map (·.size) = some 5:=by kernel_rfl
set_option maxRecDepth 20000 in
theorem uinsP_1 {V w:World} {R:List Thing} {A:Option Addr} {n c b i:Nat} {xs ys:List Value} (H:Own V w (rowT 207 5 (.slice A n c) n xs :: blkT b ys.toArray 207 :: R)) (hy:ys.length = 5) (h1:∀ u ∈ xs,u.oneCell' = true) (h2:∀ u ∈ ys,u.oneCell' = true) (hi:i ≤ n) (hn:n < 1000000) :
 Calls Tryz.prog 158 #[.slice A n c,.int .i64 (i:Int),.slice (some ⟨b,0,none⟩) 1 1] w fun e w' => ∃ B c',e = .returned (.slice B (n + 1) c') ∧ Own V w' (rowT 207 5 (.slice B (n + 1) c') (n + 1) (xs.take (i * 5) ++ ys ++ xs.drop (i * 5)) :: R):=by
 obtain ⟨i0,hi0,hz0,hz1,hz2⟩:=info_parts infoUP
 have hxl:=H.head.1
 have hyb:=H.second
 have ycell:∀ j u,ys[j]? = some u → w.cell? ((⟨b,0,none⟩ : Addr).add j) = some u:=fun j u hj => by
  rw [Addr.add_lit,Nat.zero_add]
  exact blk_cell hyb j (by rw [List.getElem?_toArray]; exact hj)
 have z1:((1:Int) == 0) = false:=by decide
 by_cases c0:i = n
 · subst c0
   have e1:xs.take (i * 5) = xs:=List.take_of_length_le (by rw [hxl]; omega)
   have e2:xs.drop (i * 5) = []:=List.drop_eq_nil_of_le (by rw [hxl]; omega)
   rw [e1,e2,List.append_nil]
   have S3:Hid (i + 1 ≤ maxLen):=by show _ ≤ maxLen; unfold maxLen; omega
   have S4:Hid ((i + 1) * 56 ≤ 140737488355328):=by show _ ≤ _; omega
   have HY:=Lib.hid ycell
   have H1:=Lib.hid h2
   have HL:Hid (ys.length = 1 * 5):=Lib.hid hy
   have HA:=Lib.hid H
   clear hxl hyb ycell h1 h2 e1 e2 hy H hn hi
   go_enter Tryz.func158,Tryz.ntmps158
   go_wp2_with (first
    | (at_builtin; refine wpList_append_thing rfl (.tmp 23) (.tmp 24) 216 rfl 207 i0 (.agg #[.string ⟨#[]⟩,.string ⟨#[]⟩,.int .i64 0,.int .i64 0,.int .i64 0]) 5 56 Tryz.underlying216 hi0 hz0 hz1 hz2 rfl (by decide) (.slice A i c) i xs rfl HA.out (some ⟨b,0,none⟩) 1 1 ys rfl HL.out (fun e => by cases e) (fun a e => by cases e; exact HY.out) H1.out S3.out S4.out rfl rfl ?_; intro B3 c3 w5 H5))
   all_goals
    go_ret
    exact ⟨_,_,rfl,H5.swap.drop⟩
 · have lt:i < n:=by omega
   obtain ⟨g,cur,rfl,nc,cm,hcl,htk,H1⟩:=H.rowOpen (by omega)
   have ne:g ≠ b:=fun e => by
    have:=(List.pairwise_cons.1 H1.apart).1 _ (.head _) g (by simp)
    simp [e] at this
   have i1:(0:Int) ≤ (i:Int) + 1:=by omega
   have i2:((i:Int) + 1).toNat = i + 1:=by omega
   have i3:¬ (c = i):=by omega
   have i4:(i:Int) ≤ (n:Int):=by omega
   have i5:¬ ((i:Int) = (n:Int)):=by omega
   have i7:IntKind.i64.wrap ((i:Int) + 1) = (i:Int) + 1:=by simp [IntKind.wrap,IntKind.bits,IntKind.signed]; omega
   have i8:(i:Int) + 1 ≤ (n:Int) + 1:=by omega
   have i10:(i:Int) ≤ (n:Int) + 1:=by omega
   have i6:((i:Int) == (n:Int)) = false:=by rw [beq_eq_false_iff_ne]; exact i5
   have xcell:∀ j u,xs[j]? = some u → w.cell? ⟨g,j,none⟩ = some u:=fun j u hj => by
    refine blk_cell H1.head j ?_
    rw [List.getElem?_toArray]
    have l:=(List.getElem?_eq_some_iff.1 hj).1
    rw [← htk,List.getElem?_take] at hj
    split at hj
    · exact hj
    · cases hj
   have hS:Tryz.prog.underlying 216 = some (.slice 207):=Tryz.underlying216
   by_cases room:n + 1 ≤ c
   · have i9:¬ (c = i + 1):=by omega
     have hin:(i + 1) * 5 ≤ cur.length:=by rw [hcl]; exact Nat.mul_le_mul_right _ (by omega)
     obtain ⟨zs,hzs⟩ : ∃ zs,xs.drop (i * 5) = zs:=⟨_,rfl⟩
     have zl:zs.length = (n - i) * 5:=by rw [← hzs,List.length_drop,hxl,Nat.sub_mul]
     have zcell:∀ j u,zs[j]? = some u → w.cell? ((⟨g,i * 5,none⟩ : Addr).add j) = some u:=fun j u hj => by
      rw [Addr.add_lit]
      exact xcell (i * 5 + j) u (by rw [← hzs,List.getElem?_drop] at hj; exact hj)
     have zone:∀ u ∈ zs,u.oneCell' = true:=fun u hu => h1 u (by rw [← hzs] at hu; exact List.mem_of_mem_drop hu)
     have hov:∀ lb cb,(callFunc 168 #[.slice (some ⟨b,0,none⟩) 1 1,.slice (some ⟨g,(i + 1) * 5,none⟩) lb cb]).run Tryz.prog w = .ok (.value (.bool false)) w:=fun lb cb => by
      rw [run_callFunc_extern Tryz.func168 (by kernel_rfl) (by kernel_rfl) (by kernel_rfl) (e:=Extern.SlicesOverlaps.overlaps #[216,216] #[4]) (by kernel_rfl),
       Lib.run_overlaps_apart w 216 4 207 hS 5 Tryz.sizeOf207 ⟨b,0,none⟩ ⟨g,(i + 1) * 5,none⟩ 1 1 lb cb (fun e => ne e.symm) 207 207 5 (c * 5) ((shapeU hyb).trans (by simp [hy])) ((shapeU H1.head).trans (by simp [hcl])) (by omega) (blk_free hyb 0) (blk_free hyb 5)]
      rfl
     have c63:c ≤ 9223372036854775807:=by unfold maxLen at cm; omega
     have HI:=Lib.hid (And.intro hy (And.intro h2 (And.intro hcl (And.intro htk (And.intro zl (And.intro zcell (And.intro zone (And.intro hzs hxl))))))))
     have HB:=Lib.hid hyb
     have HX:=Lib.hid H1
     have HC:=Lib.hid cm
     clear hy h1 h2 hcl htk zl zcell zone hyb ycell xcell H H1 hzs hxl cm ne
     go_enter Tryz.func158,Tryz.ntmps158
     go_wp2_with (simp only [hov])
     obtain ⟨hy,h2,hcl,htk,zl,zcell,zone,hzs,hxl⟩:=HI.out
     have e1:(i + 1) * 5 = i * 5 + 5:=Nat.succ_mul _ _
     have hfit:(i + 1) * 5 + zs.length ≤ cur.length:=by rw [zl,hcl,← Nat.add_mul]; exact Nat.mul_le_mul_right _ (by omega)
     have r1:=run_copy_at (P:=Tryz.prog) w.drew 216 216 3 207 g ((i + 1) * 5) 5 (n - i) (n + 1 - i) (n - i) (c - (i + 1)) (c - i) ⟨g,i * 5,none⟩ cur.toArray 207 zs hS sizeUP HX.out.head (by show Nat.min _ _ = _; simp only [Nat.min_def]; split <;> omega) zl zcell (by simpa using hfit) zone
     obtain ⟨c1,hc1⟩ : ∃ c1,cur.take ((i + 1) * 5) ++ zs ++ cur.drop ((i + 1) * 5 + zs.length) = c1:=⟨_,rfl⟩
     have l1:c1.length = cur.length:=by rw [← hc1]; simp only [List.length_append,List.length_take,List.length_drop]; omega
     rw [List.toList_toArray,hc1] at r1
     have H2:=Own.setRowU (HX.out.quiet (Wider.refl w).drew) c1.toArray
     obtain ⟨W1,hW1⟩ : ∃ W1,w.drew.setRow g c1.toArray = W1:=⟨_,rfl⟩
     rw [hW1] at r1 H2
     have r2:=run_copy_at (P:=Tryz.prog) W1 216 216 3 207 g (i * 5) 5 (n + 1 - i) 1 1 (c - i) 1 ⟨b,0,none⟩ c1.toArray 207 ys hS sizeUP H2.head (by show Nat.min _ _ = _; simp only [Nat.min_def]; split <;> omega) (by omega) (fun j u hj => by
      rw [Addr.add_lit,Nat.zero_add]
      exact blk_cell H2.second j (by rw [List.getElem?_toArray]; exact hj)) (by rw [List.size_toArray,l1,hy]; omega) h2
     rw [List.toList_toArray] at r2
     have fin:c1.take (i * 5) ++ ys ++ c1.drop (i * 5 + ys.length) = xs.take (i * 5) ++ ys ++ zs ++ cur.drop ((i + 1) * 5 + zs.length):=by
      rw [← hc1,e1,ins_room cur ys zs (i * 5) 5 (by rw [← e1]; exact hin) hy,← htk,List.take_take,Nat.min_eq_left (Nat.mul_le_mul_right _ (by omega))]
     obtain ⟨c2,hc2⟩ : ∃ c2,xs.take (i * 5) ++ ys ++ zs ++ cur.drop ((i + 1) * 5 + zs.length) = c2:=⟨_,rfl⟩
     rw [fin,hc2] at r2
     have H3:=Own.setRowU H2 c2.toArray
     have lf:(xs.take (i * 5) ++ ys ++ zs).length = (n + 1) * 5:=by
      simp only [List.length_append,List.length_take,hxl,zl,hy]
      have:=Nat.mul_le_mul_right 5 (show i ≤ n by omega)
      rw [Nat.min_eq_left this]
      omega
     have H4:=H3.rowShut (n:=n + 1) (c:=c) (k:=5) (xs:=xs.take (i * 5) ++ ys ++ zs) room HC.out (by rw [← hc2,List.length_append,lf,List.length_drop,hcl]; omega) (by rw [← lf,← hc2]; exact List.take_left)
     rw [← hzs] at H4
     have HF:=Lib.hid (H4.swap.drop)
     clear hy h2 hcl htk zl zcell zone hzs hxl e1 hfit l1 H2 fin H3 lf H4 HI HB HX hin hov hc2 hc1 hW1
     go_region_law (refine step_copy_u rfl (.tmp 73) (.tmp 76) 216 216 rfl (by simp [Act.eval,Act.put]) (by simp [Act.eval,Act.put]) r1 ?_)
     all_goals
      go_wp2_with (first
       | (at_builtin; refine wpList_copy_u _ rfl (.tmp 80) (.tmp 81) 216 216 rfl _ _ rfl rfl r2 ?_))
      go_ret
      exact ⟨_,_,rfl,HF.out⟩
   · obtain rfl:c = n:=by omega
     obtain ⟨zs,hzs⟩ : ∃ zs,xs.drop (i * 5) = zs:=⟨_,rfl⟩
     have zl:zs.length = (c - i) * 5:=by rw [← hzs,List.length_drop,hxl,Nat.sub_mul]
     have zone:∀ u ∈ zs,u.oneCell' = true:=fun u hu => h1 u (by rw [← hzs] at hu; exact List.mem_of_mem_drop hu)
     obtain ⟨os,hos⟩ : ∃ os,xs.take (i * 5) = os:=⟨_,rfl⟩
     have ol:os.length = i * 5:=by rw [← hos,List.length_take,hxl]; exact Nat.min_eq_left (Nat.mul_le_mul_right _ (by omega))
     obtain ⟨m,hm⟩ : ∃ m,c + 1 - i = m:=⟨_,rfl⟩
     have hmi:i + m = c + 1:=by omega
     have hold:=run_firstCells_some (P:=Tryz.prog) w.drew i0.size i ⟨g,0,none⟩ i c os (by rw [ol,hz1]) (fun j u hj => by
      rw [Addr.add_lit,Nat.zero_add]
      refine xcell j u ?_
      have l:=(List.getElem?_eq_some_iff.1 hj).1
      rw [← hos,List.getElem?_take] at hj
      split at hj
      · exact hj
      · cases hj)
     have r0:=Lib.run_append_grow_zeros (P:=Tryz.prog) w 216 3 216 207 i0 (.agg #[.string ⟨#[]⟩,.string ⟨#[]⟩,.int .i64 0,.int .i64 0,.int .i64 0]) .i64 .i64 hS Tryz.underlying3 hi0 hz0 (some ⟨g,0,none⟩) i c os hold m (by omega) (by omega) (by omega) (by omega) (by rw [hz2]; omega) (by rw [hz2]; exact growslice_fits (by omega) (by omega))
     have hge:=grownCap_ge w (i + m) c 207
     have hcm:=grownCap_le_maxLen w (i + m) c 207 (by simp only [maxLen]; omega)
     obtain ⟨C,hC⟩ : ∃ C,grownCap w (i + m) c 207 = C:=⟨_,rfl⟩
     rw [hC] at r0 hge hcm
     obtain ⟨Z,hZ⟩ : ∃ Z,(Builtin.zeroCells (Value.cells (.agg #[.string ⟨#[]⟩,.string ⟨#[]⟩,.int .i64 0,.int .i64 0,.int .i64 0])) m ++ Builtin.zeroCells (Value.cells (.agg #[.string ⟨#[]⟩,.string ⟨#[]⟩,.int .i64 0,.int .i64 0,.int .i64 0])) (C - (i + m))).toList = Z:=⟨_,rfl⟩
     have hZl:Z.length = (C - i) * 5:=by
      rw [← hZ,Array.length_toList,Array.size_append,size_zeroCells,size_zeroCells]
      show m * 5 + (C - (i + m)) * 5 = _
      rw [← Nat.add_mul]
      congr 1
      omega
     obtain ⟨C0,hC0⟩ : ∃ C0,os ++ Z = C0:=⟨_,rfl⟩
     have e0:os.toArray ++ Builtin.zeroCells (Value.cells (.agg #[.string ⟨#[]⟩,.string ⟨#[]⟩,.int .i64 0,.int .i64 0,.int .i64 0])) m ++ Builtin.zeroCells (Value.cells (.agg #[.string ⟨#[]⟩,.string ⟨#[]⟩,.int .i64 0,.int .i64 0,.int .i64 0])) (C - (i + m)) = C0.toArray:=by
      apply Array.ext'
      rw [← hC0,← hZ]
      simp
     rw [e0,hmi] at r0
     rw [hmi] at hge
     have l0:C0.length = C * 5:=by
      rw [← hC0,List.length_append,ol,hZl,← Nat.add_mul]
      congr 1
      omega
     have e1:(i + 1) * 5 = i * 5 + 5:=Nat.succ_mul _ _
     have hC1:(c + 1) * 5 ≤ C * 5:=Nat.mul_le_mul_right _ hge
     have hC2:(i + 1) * 5 + (c - i) * 5 = (c + 1) * 5:=by rw [← Nat.add_mul]; congr 1; omega
     have H2:=(H1.quiet (Wider.refl w).drew).blk C0.toArray 207
     obtain ⟨G,hG⟩ : ∃ G,w.heap.size = G:=⟨_,rfl⟩
     have hG2:w.drew.heap.size = G:=hG
     rw [hG2] at H2
     rw [hG] at r0
     obtain ⟨W0,hW0⟩ : ∃ W0,w.drew.alloc (.cells C0.toArray 207) = W0:=⟨_,rfl⟩
     rw [hW0] at r0 H2
     have r1:=run_copy_at (P:=Tryz.prog) W0 216 216 3 207 G (i * 5) 5 m 1 1 (C - i) 1 ⟨b,0,none⟩ C0.toArray 207 ys hS sizeUP H2.head (by show Nat.min _ _ = _; simp only [Nat.min_def]; split <;> omega) (by omega) (fun j u hj => by
      rw [Addr.add_lit,Nat.zero_add]
      exact blk_cell H2.drop.second j (by rw [List.getElem?_toArray]; exact hj)) (by rw [List.size_toArray,l0,hy]; omega) h2
     rw [List.toList_toArray] at r1
     obtain ⟨c1,hc1⟩ : ∃ c1,C0.take (i * 5) ++ ys ++ C0.drop (i * 5 + ys.length) = c1:=⟨_,rfl⟩
     rw [hc1] at r1
     have l1:c1.length = C0.length:=by rw [← hc1]; simp only [List.length_append,List.length_take,List.length_drop]; omega
     have H3:=Own.setRowU H2 c1.toArray
     obtain ⟨W1,hW1⟩ : ∃ W1,W0.setRow G c1.toArray = W1:=⟨_,rfl⟩
     rw [hW1] at r1 H3
     have H3d:=H3.quiet (Wider.refl W1).drew
     have r2:=run_copy_at (P:=Tryz.prog) W1.drew 216 216 3 207 G ((i + 1) * 5) 5 (c - i) (c - i) (c - i) (C - (i + 1)) (c - i) ⟨g,i * 5,none⟩ c1.toArray 207 zs hS sizeUP H3d.head (by show Nat.min _ _ = _; simp only [Nat.min_def]; split <;> omega) zl (fun j u hj => by
      rw [Addr.add_lit]
      refine blk_cell H3d.second (i * 5 + j) ?_
      rw [List.getElem?_toArray]
      have q:=hj
      rw [← hzs,List.getElem?_drop] at q
      have l:=(List.getElem?_eq_some_iff.1 q).1
      rw [← htk,List.getElem?_take] at q
      split at q
      · exact q
      · cases q) (by rw [List.size_toArray,l1,l0,zl]; omega) zone
     rw [List.toList_toArray] at r2
     have fin:c1.take ((i + 1) * 5) ++ zs ++ c1.drop ((i + 1) * 5 + zs.length) = os ++ ys ++ zs ++ C0.drop ((i + 1) * 5 + zs.length):=by
      rw [← hc1,e1,ins_new C0 ys zs (i * 5) 5 (by rw [l0]; omega) hy]
      congr 3
      rw [← hC0,← ol]
      exact List.take_left
     obtain ⟨c2,hc2⟩ : ∃ c2,os ++ ys ++ zs ++ C0.drop ((i + 1) * 5 + zs.length) = c2:=⟨_,rfl⟩
     rw [fin,hc2] at r2
     have H4:=Own.setRowU H3d c2.toArray
     have lf:(os ++ ys ++ zs).length = (c + 1) * 5:=by
      simp only [List.length_append,ol,zl,hy]
      omega
     have H5:=H4.rowShut (n:=c + 1) (c:=C) (k:=5) (xs:=os ++ ys ++ zs) hge hcm (by rw [← hc2,List.length_append,lf,List.length_drop,l0,zl]; omega) (by rw [← lf,← hc2]; exact List.take_left)
     rw [← hzs,← hos] at H5
     have HF2:=Lib.hid ((H5.swap.drop).swap.drop)
     have j1:IntKind.i64.wrap ((c:Int) + 1) = (c:Int) + 1:=by simp [IntKind.wrap,IntKind.bits,IntKind.signed]; omega
     have j2:IntKind.i64.wrap ((c:Int) + 1 - (i:Int)) = (m:Int):=by rw [show (c:Int) + 1 - (i:Int) = (m:Int) by omega]; simp [IntKind.wrap,IntKind.bits,IntKind.signed]; omega
     have j3:¬ (C = i):=by omega
     have j4:¬ (C = i + 1):=by omega
     have j5:(c:Int) + 1 - (i:Int) = (m:Int):=by omega
     clear hy h1 h2 hcl htk zl zone hyb ycell xcell H H1 hzs hxl cm ne H2 H3 H3d H4 H5 fin lf l0 l1 e0 e1 hC0 hC1 hC2 hZ hZl ol hos hold hge hcm hG hG2 hW0 hW1 hc1 hC hc2 nc
     go_enter Tryz.func158,Tryz.ntmps158
     go_upto_region 11 with (first
      | (at_builtin; refine wpList_append_u _ rfl (.tmp 34) (.tmp 39) 216 3 rfl _ _ rfl rfl r0 ?_)
      | (at_builtin; refine wpList_copy_u _ rfl (.tmp 43) (.tmp 44) 216 216 rfl _ _ rfl rfl r1 ?_))
     go_region_law (refine step_copy_u rfl (.tmp 50) (.tmp 53) 216 216 rfl (by simp [Act.eval,Act.put]) (by simp [Act.eval,Act.put]) r2 ?_)
     all_goals
      go_wp2
      go_ret
      exact ⟨_,_,rfl,HF2.out⟩
theorem infoUI:(Tryz.prog.info? 3).map (fun i => (i.zero,i.size,i.bytes)) = some (some (.int .i64 0),1,8):=by kernel_rfl
theorem sizeUI:(Tryz.prog.info? 3).map (·.size) = some 1:=by kernel_rfl
set_option maxRecDepth 20000 in
theorem uinsI_1 {V w:World} {R:List Thing} {A:Option Addr} {n c b i:Nat} {xs ys:List Value} (H:Own V w (rowT 3 1 (.slice A n c) n xs :: blkT b ys.toArray 3 :: R)) (hy:ys.length = 1) (h1:∀ u ∈ xs,u.oneCell' = true) (h2:∀ u ∈ ys,u.oneCell' = true) (hi:i ≤ n) (hn:n < 1000000) :
 Calls Tryz.prog 159 #[.slice A n c,.int .i64 (i:Int),.slice (some ⟨b,0,none⟩) 1 1] w fun e w' => ∃ B c',e = .returned (.slice B (n + 1) c') ∧ Own V w' (rowT 3 1 (.slice B (n + 1) c') (n + 1) (xs.take i ++ ys ++ xs.drop i) :: R):=by
 obtain ⟨i0,hi0,hz0,hz1,hz2⟩:=info_parts infoUI
 have hxl:=H.head.1
 have hyb:=H.second
 have ycell:∀ j u,ys[j]? = some u → w.cell? ((⟨b,0,none⟩ : Addr).add j) = some u:=fun j u hj => by
  rw [Addr.add_lit,Nat.zero_add]
  exact blk_cell hyb j (by rw [List.getElem?_toArray]; exact hj)
 have z1:((1:Int) == 0) = false:=by decide
 by_cases c0:i = n
 · subst c0
   have e1:xs.take i = xs:=List.take_of_length_le (by rw [hxl]; omega)
   have e2:xs.drop i = []:=List.drop_eq_nil_of_le (by rw [hxl]; omega)
   rw [e1,e2,List.append_nil]
   have S3:Hid (i + 1 ≤ maxLen):=by show _ ≤ maxLen; unfold maxLen; omega
   have S4:Hid ((i + 1) * 8 ≤ 140737488355328):=by show _ ≤ _; omega
   have HY:=Lib.hid ycell
   have H1:=Lib.hid h2
   have HL:Hid (ys.length = 1 * 1):=Lib.hid hy
   have HA:=Lib.hid H
   clear hxl hyb ycell h1 h2 e1 e2 hy H hn hi
   go_enter Tryz.func159,Tryz.ntmps159
   go_wp2_with (first
    | (at_builtin; refine wpList_append_thing rfl (.tmp 23) (.tmp 24) 34 rfl 3 i0 (.int .i64 0) 1 8 Tryz.underlying34 hi0 hz0 hz1 hz2 rfl (by decide) (.slice A i c) i xs rfl HA.out (some ⟨b,0,none⟩) 1 1 ys rfl HL.out (fun e => by cases e) (fun a e => by cases e; exact HY.out) H1.out S3.out S4.out rfl rfl ?_; intro B3 c3 w5 H5))
   all_goals
    go_ret
    exact ⟨_,_,rfl,H5.swap.drop⟩
 · have lt:i < n:=by omega
   obtain ⟨g,cur,rfl,nc,cm,hcl,htk,H1⟩:=H.rowOpen (by omega)
   have ne:g ≠ b:=fun e => by
    have:=(List.pairwise_cons.1 H1.apart).1 _ (.head _) g (by simp)
    simp [e] at this
   have i1:(0:Int) ≤ (i:Int) + 1:=by omega
   have i2:((i:Int) + 1).toNat = i + 1:=by omega
   have i3:¬ (c = i):=by omega
   have i4:(i:Int) ≤ (n:Int):=by omega
   have i5:¬ ((i:Int) = (n:Int)):=by omega
   have i7:IntKind.i64.wrap ((i:Int) + 1) = (i:Int) + 1:=by simp [IntKind.wrap,IntKind.bits,IntKind.signed]; omega
   have i8:(i:Int) + 1 ≤ (n:Int) + 1:=by omega
   have i10:(i:Int) ≤ (n:Int) + 1:=by omega
   have i6:((i:Int) == (n:Int)) = false:=by rw [beq_eq_false_iff_ne]; exact i5
   have xcell:∀ j u,xs[j]? = some u → w.cell? ⟨g,j,none⟩ = some u:=fun j u hj => by
    refine blk_cell H1.head j ?_
    rw [List.getElem?_toArray]
    have l:=(List.getElem?_eq_some_iff.1 hj).1
    rw [← htk,List.getElem?_take] at hj
    split at hj
    · exact hj
    · cases hj
   have hS:Tryz.prog.underlying 34 = some (.slice 3):=Tryz.underlying34
   by_cases room:n + 1 ≤ c
   · have i9:¬ (c = i + 1):=by omega
     have hin:(i + 1) * 1 ≤ cur.length:=by rw [hcl]; exact Nat.mul_le_mul_right _ (by omega)
     obtain ⟨zs,hzs⟩ : ∃ zs,xs.drop (i * 1) = zs:=⟨_,rfl⟩
     have zl:zs.length = (n - i) * 1:=by rw [← hzs,List.length_drop,hxl,Nat.sub_mul]
     have zcell:∀ j u,zs[j]? = some u → w.cell? ((⟨g,i * 1,none⟩ : Addr).add j) = some u:=fun j u hj => by
      rw [Addr.add_lit]
      exact xcell (i * 1 + j) u (by rw [← hzs,List.getElem?_drop] at hj; exact hj)
     have zone:∀ u ∈ zs,u.oneCell' = true:=fun u hu => h1 u (by rw [← hzs] at hu; exact List.mem_of_mem_drop hu)
     have hov:∀ lb cb,(callFunc 170 #[.slice (some ⟨b,0,none⟩) 1 1,.slice (some ⟨g,(i + 1) * 1,none⟩) lb cb]).run Tryz.prog w = .ok (.value (.bool false)) w:=fun lb cb => by
      rw [run_callFunc_extern Tryz.func170 (by kernel_rfl) (by kernel_rfl) (by kernel_rfl) (e:=Extern.SlicesOverlaps.overlaps #[34,34] #[4]) (by kernel_rfl),
       Lib.run_overlaps_apart w 34 4 3 hS 1 Tryz.sizeOf3 ⟨b,0,none⟩ ⟨g,(i + 1) * 1,none⟩ 1 1 lb cb (fun e => ne e.symm) 3 3 1 (c * 1) ((shapeU hyb).trans (by simp [hy])) ((shapeU H1.head).trans (by simp [hcl])) (by omega) (blk_free hyb 0) (blk_free hyb 1)]
      rfl
     simp only [Nat.mul_one] at hov
     have c63:c ≤ 9223372036854775807:=by unfold maxLen at cm; omega
     have HI:=Lib.hid (And.intro hy (And.intro h2 (And.intro hcl (And.intro htk (And.intro zl (And.intro zcell (And.intro zone (And.intro hzs hxl))))))))
     have HB:=Lib.hid hyb
     have HX:=Lib.hid H1
     have HC:=Lib.hid cm
     clear hy h1 h2 hcl htk zl zcell zone hyb ycell xcell H H1 hzs hxl cm ne
     go_enter Tryz.func159,Tryz.ntmps159
     go_wp2_with (simp only [hov])
     obtain ⟨hy,h2,hcl,htk,zl,zcell,zone,hzs,hxl⟩:=HI.out
     have e1:(i + 1) * 1 = i * 1 + 1:=Nat.succ_mul _ _
     have hfit:(i + 1) * 1 + zs.length ≤ cur.length:=by rw [zl,hcl,← Nat.add_mul]; exact Nat.mul_le_mul_right _ (by omega)
     have r1:=run_copy_at (P:=Tryz.prog) w.drew 34 34 3 3 g ((i + 1) * 1) 1 (n - i) (n + 1 - i) (n - i) (c - (i + 1)) (c - i) ⟨g,i * 1,none⟩ cur.toArray 3 zs hS sizeUI HX.out.head (by show Nat.min _ _ = _; simp only [Nat.min_def]; split <;> omega) zl zcell (by simpa using hfit) zone
     obtain ⟨c1,hc1⟩ : ∃ c1,cur.take ((i + 1) * 1) ++ zs ++ cur.drop ((i + 1) * 1 + zs.length) = c1:=⟨_,rfl⟩
     have l1:c1.length = cur.length:=by rw [← hc1]; simp only [List.length_append,List.length_take,List.length_drop]; omega
     rw [List.toList_toArray,hc1] at r1
     have H2:=Own.setRowU (HX.out.quiet (Wider.refl w).drew) c1.toArray
     obtain ⟨W1,hW1⟩ : ∃ W1,w.drew.setRow g c1.toArray = W1:=⟨_,rfl⟩
     rw [hW1] at r1 H2
     have r2:=run_copy_at (P:=Tryz.prog) W1 34 34 3 3 g (i * 1) 1 (n + 1 - i) 1 1 (c - i) 1 ⟨b,0,none⟩ c1.toArray 3 ys hS sizeUI H2.head (by show Nat.min _ _ = _; simp only [Nat.min_def]; split <;> omega) (by omega) (fun j u hj => by
      rw [Addr.add_lit,Nat.zero_add]
      exact blk_cell H2.second j (by rw [List.getElem?_toArray]; exact hj)) (by rw [List.size_toArray,l1,hy]; omega) h2
     rw [List.toList_toArray] at r2
     have fin:c1.take (i * 1) ++ ys ++ c1.drop (i * 1 + ys.length) = xs.take (i * 1) ++ ys ++ zs ++ cur.drop ((i + 1) * 1 + zs.length):=by
      rw [← hc1,e1,ins_room cur ys zs (i * 1) 1 (by rw [← e1]; exact hin) hy,← htk,List.take_take,Nat.min_eq_left (Nat.mul_le_mul_right _ (by omega))]
     obtain ⟨c2,hc2⟩ : ∃ c2,xs.take (i * 1) ++ ys ++ zs ++ cur.drop ((i + 1) * 1 + zs.length) = c2:=⟨_,rfl⟩
     rw [fin,hc2] at r2
     have H3:=Own.setRowU H2 c2.toArray
     have lf:(xs.take (i * 1) ++ ys ++ zs).length = (n + 1) * 1:=by
      simp only [List.length_append,List.length_take,hxl,zl,hy]
      have:=Nat.mul_le_mul_right 1 (show i ≤ n by omega)
      rw [Nat.min_eq_left this]
      omega
     have H4:=H3.rowShut (n:=n + 1) (c:=c) (k:=1) (xs:=xs.take (i * 1) ++ ys ++ zs) room HC.out (by rw [← hc2,List.length_append,lf,List.length_drop,hcl]; omega) (by rw [← lf,← hc2]; exact List.take_left)
     rw [← hzs] at H4
     simp only [Nat.mul_one] at r1 r2 H4
     have HF:=Lib.hid (H4.swap.drop)
     clear hy h2 hcl htk zl zcell zone hzs hxl e1 hfit l1 H2 fin H3 lf H4 HI HB HX hin hov hc2 hc1 hW1
     go_region_law (refine step_copy_u rfl (.tmp 73) (.tmp 76) 34 34 rfl (by simp [Act.eval,Act.put]) (by simp [Act.eval,Act.put]) r1 ?_)
     all_goals
      go_wp2_with (first
       | (at_builtin; refine wpList_copy_u _ rfl (.tmp 80) (.tmp 81) 34 34 rfl _ _ rfl rfl r2 ?_))
      go_ret
      exact ⟨_,_,rfl,HF.out⟩
   · obtain rfl:c = n:=by omega
     obtain ⟨zs,hzs⟩ : ∃ zs,xs.drop (i * 1) = zs:=⟨_,rfl⟩
     have zl:zs.length = (c - i) * 1:=by rw [← hzs,List.length_drop,hxl,Nat.sub_mul]
     have zone:∀ u ∈ zs,u.oneCell' = true:=fun u hu => h1 u (by rw [← hzs] at hu; exact List.mem_of_mem_drop hu)
     obtain ⟨os,hos⟩ : ∃ os,xs.take (i * 1) = os:=⟨_,rfl⟩
     have ol:os.length = i * 1:=by rw [← hos,List.length_take,hxl]; exact Nat.min_eq_left (Nat.mul_le_mul_right _ (by omega))
     obtain ⟨m,hm⟩ : ∃ m,c + 1 - i = m:=⟨_,rfl⟩
     have hmi:i + m = c + 1:=by omega
     have hold:=run_firstCells_some (P:=Tryz.prog) w.drew i0.size i ⟨g,0,none⟩ i c os (by rw [ol,hz1]) (fun j u hj => by
      rw [Addr.add_lit,Nat.zero_add]
      refine xcell j u ?_
      have l:=(List.getElem?_eq_some_iff.1 hj).1
      rw [← hos,List.getElem?_take] at hj
      split at hj
      · exact hj
      · cases hj)
     have r0:=Lib.run_append_grow_zeros (P:=Tryz.prog) w 34 3 34 3 i0 (.int .i64 0) .i64 .i64 hS Tryz.underlying3 hi0 hz0 (some ⟨g,0,none⟩) i c os hold m (by omega) (by omega) (by omega) (by omega) (by rw [hz2]; omega) (by rw [hz2]; exact growslice_fits (by omega) (by omega))
     have hge:=grownCap_ge w (i + m) c 3
     have hcm:=grownCap_le_maxLen w (i + m) c 3 (by simp only [maxLen]; omega)
     obtain ⟨C,hC⟩ : ∃ C,grownCap w (i + m) c 3 = C:=⟨_,rfl⟩
     rw [hC] at r0 hge hcm
     obtain ⟨Z,hZ⟩ : ∃ Z,(Builtin.zeroCells (Value.cells (.int .i64 0)) m ++ Builtin.zeroCells (Value.cells (.int .i64 0)) (C - (i + m))).toList = Z:=⟨_,rfl⟩
     have hZl:Z.length = (C - i) * 1:=by
      rw [← hZ,Array.length_toList,Array.size_append,size_zeroCells,size_zeroCells]
      show m * 1 + (C - (i + m)) * 1 = _
      rw [← Nat.add_mul]
      congr 1
      omega
     obtain ⟨C0,hC0⟩ : ∃ C0,os ++ Z = C0:=⟨_,rfl⟩
     have e0:os.toArray ++ Builtin.zeroCells (Value.cells (.int .i64 0)) m ++ Builtin.zeroCells (Value.cells (.int .i64 0)) (C - (i + m)) = C0.toArray:=by
      apply Array.ext'
      rw [← hC0,← hZ]
      simp
     rw [e0,hmi] at r0
     rw [hmi] at hge
     have l0:C0.length = C * 1:=by
      rw [← hC0,List.length_append,ol,hZl,← Nat.add_mul]
      congr 1
      omega
     have e1:(i + 1) * 1 = i * 1 + 1:=Nat.succ_mul _ _
     have hC1:(c + 1) * 1 ≤ C * 1:=Nat.mul_le_mul_right _ hge
     have hC2:(i + 1) * 1 + (c - i) * 1 = (c + 1) * 1:=by rw [← Nat.add_mul]; congr 1; omega
     have H2:=(H1.quiet (Wider.refl w).drew).blk C0.toArray 3
     obtain ⟨G,hG⟩ : ∃ G,w.heap.size = G:=⟨_,rfl⟩
     have hG2:w.drew.heap.size = G:=hG
     rw [hG2] at H2
     rw [hG] at r0
     obtain ⟨W0,hW0⟩ : ∃ W0,w.drew.alloc (.cells C0.toArray 3) = W0:=⟨_,rfl⟩
     rw [hW0] at r0 H2
     have r1:=run_copy_at (P:=Tryz.prog) W0 34 34 3 3 G (i * 1) 1 m 1 1 (C - i) 1 ⟨b,0,none⟩ C0.toArray 3 ys hS sizeUI H2.head (by show Nat.min _ _ = _; simp only [Nat.min_def]; split <;> omega) (by omega) (fun j u hj => by
      rw [Addr.add_lit,Nat.zero_add]
      exact blk_cell H2.drop.second j (by rw [List.getElem?_toArray]; exact hj)) (by rw [List.size_toArray,l0,hy]; omega) h2
     rw [List.toList_toArray] at r1
     obtain ⟨c1,hc1⟩ : ∃ c1,C0.take (i * 1) ++ ys ++ C0.drop (i * 1 + ys.length) = c1:=⟨_,rfl⟩
     rw [hc1] at r1
     have l1:c1.length = C0.length:=by rw [← hc1]; simp only [List.length_append,List.length_take,List.length_drop]; omega
     have H3:=Own.setRowU H2 c1.toArray
     obtain ⟨W1,hW1⟩ : ∃ W1,W0.setRow G c1.toArray = W1:=⟨_,rfl⟩
     rw [hW1] at r1 H3
     have H3d:=H3.quiet (Wider.refl W1).drew
     have r2:=run_copy_at (P:=Tryz.prog) W1.drew 34 34 3 3 G ((i + 1) * 1) 1 (c - i) (c - i) (c - i) (C - (i + 1)) (c - i) ⟨g,i * 1,none⟩ c1.toArray 3 zs hS sizeUI H3d.head (by show Nat.min _ _ = _; simp only [Nat.min_def]; split <;> omega) zl (fun j u hj => by
      rw [Addr.add_lit]
      refine blk_cell H3d.second (i * 1 + j) ?_
      rw [List.getElem?_toArray]
      have q:=hj
      rw [← hzs,List.getElem?_drop] at q
      have l:=(List.getElem?_eq_some_iff.1 q).1
      rw [← htk,List.getElem?_take] at q
      split at q
      · exact q
      · cases q) (by rw [List.size_toArray,l1,l0,zl]; omega) zone
     rw [List.toList_toArray] at r2
     have fin:c1.take ((i + 1) * 1) ++ zs ++ c1.drop ((i + 1) * 1 + zs.length) = os ++ ys ++ zs ++ C0.drop ((i + 1) * 1 + zs.length):=by
      rw [← hc1,e1,ins_new C0 ys zs (i * 1) 1 (by rw [l0]; omega) hy]
      congr 3
      rw [← hC0,← ol]
      exact List.take_left
     obtain ⟨c2,hc2⟩ : ∃ c2,os ++ ys ++ zs ++ C0.drop ((i + 1) * 1 + zs.length) = c2:=⟨_,rfl⟩
     rw [fin,hc2] at r2
     have H4:=Own.setRowU H3d c2.toArray
     have lf:(os ++ ys ++ zs).length = (c + 1) * 1:=by
      simp only [List.length_append,ol,zl,hy]
      omega
     have H5:=H4.rowShut (n:=c + 1) (c:=C) (k:=1) (xs:=os ++ ys ++ zs) hge hcm (by rw [← hc2,List.length_append,lf,List.length_drop,l0,zl]; omega) (by rw [← lf,← hc2]; exact List.take_left)
     rw [← hzs,← hos] at H5
     simp only [Nat.mul_one] at r0 r1 r2 H5
     have HF2:=Lib.hid ((H5.swap.drop).swap.drop)
     have j1:IntKind.i64.wrap ((c:Int) + 1) = (c:Int) + 1:=by simp [IntKind.wrap,IntKind.bits,IntKind.signed]; omega
     have j2:IntKind.i64.wrap ((c:Int) + 1 - (i:Int)) = (m:Int):=by rw [show (c:Int) + 1 - (i:Int) = (m:Int) by omega]; simp [IntKind.wrap,IntKind.bits,IntKind.signed]; omega
     have j3:¬ (C = i):=by omega
     have j4:¬ (C = i + 1):=by omega
     have j5:(c:Int) + 1 - (i:Int) = (m:Int):=by omega
     clear hy h1 h2 hcl htk zl zone hyb ycell xcell H H1 hzs hxl cm ne H2 H3 H3d H4 H5 fin lf l0 l1 e0 e1 hC0 hC1 hC2 hZ hZl ol hos hold hge hcm hG hG2 hW0 hW1 hc1 hC hc2 nc
     go_enter Tryz.func159,Tryz.ntmps159
     go_upto_region 11 with (first
      | (at_builtin; refine wpList_append_u _ rfl (.tmp 34) (.tmp 39) 34 3 rfl _ _ rfl rfl r0 ?_)
      | (at_builtin; refine wpList_copy_u _ rfl (.tmp 43) (.tmp 44) 34 34 rfl _ _ rfl rfl r1 ?_))
     go_region_law (refine step_copy_u rfl (.tmp 50) (.tmp 53) 34 34 rfl (by simp [Act.eval,Act.put]) (by simp [Act.eval,Act.put]) r2 ?_)
     all_goals
      go_wp2
      go_ret
      exact ⟨_,_,rfl,HF2.out⟩
theorem infoUG:(Tryz.prog.info? 199).map (fun i => (i.zero,i.size,i.bytes)) = some (some (.pointer none),1,8):=by kernel_rfl
theorem sizeUG:(Tryz.prog.info? 199).map (·.size) = some 1:=by kernel_rfl
set_option maxRecDepth 20000 in
theorem uinsG_1 {V w:World} {R:List Thing} {A:Option Addr} {n c b i:Nat} {xs ys:List Value} (H:Own V w (rowT 199 1 (.slice A n c) n xs :: blkT b ys.toArray 199 :: R)) (hy:ys.length = 1) (h1:∀ u ∈ xs,u.oneCell' = true) (h2:∀ u ∈ ys,u.oneCell' = true) (hi:i ≤ n) (hn:n < 1000000) :
 Calls Tryz.prog 154 #[.slice A n c,.int .i64 (i:Int),.slice (some ⟨b,0,none⟩) 1 1] w fun e w' => ∃ B c',e = .returned (.slice B (n + 1) c') ∧ Own V w' (rowT 199 1 (.slice B (n + 1) c') (n + 1) (xs.take i ++ ys ++ xs.drop i) :: R):=by
 obtain ⟨i0,hi0,hz0,hz1,hz2⟩:=info_parts infoUG
 have hxl:=H.head.1
 have hyb:=H.second
 have ycell:∀ j u,ys[j]? = some u → w.cell? ((⟨b,0,none⟩ : Addr).add j) = some u:=fun j u hj => by
  rw [Addr.add_lit,Nat.zero_add]
  exact blk_cell hyb j (by rw [List.getElem?_toArray]; exact hj)
 have z1:((1:Int) == 0) = false:=by decide
 by_cases c0:i = n
 · subst c0
   have e1:xs.take i = xs:=List.take_of_length_le (by rw [hxl]; omega)
   have e2:xs.drop i = []:=List.drop_eq_nil_of_le (by rw [hxl]; omega)
   rw [e1,e2,List.append_nil]
   have S3:Hid (i + 1 ≤ maxLen):=by show _ ≤ maxLen; unfold maxLen; omega
   have S4:Hid ((i + 1) * 8 ≤ 140737488355328):=by show _ ≤ _; omega
   have HY:=Lib.hid ycell
   have H1:=Lib.hid h2
   have HL:Hid (ys.length = 1 * 1):=Lib.hid hy
   have HA:=Lib.hid H
   clear hxl hyb ycell h1 h2 e1 e2 hy H hn hi
   go_enter Tryz.func154,Tryz.ntmps154
   go_wp2_with (first
    | (at_builtin; refine wpList_append_thing rfl (.tmp 23) (.tmp 24) 132 rfl 199 i0 (.pointer none) 1 8 Tryz.underlying132 hi0 hz0 hz1 hz2 rfl (by decide) (.slice A i c) i xs rfl HA.out (some ⟨b,0,none⟩) 1 1 ys rfl HL.out (fun e => by cases e) (fun a e => by cases e; exact HY.out) H1.out S3.out S4.out rfl rfl ?_; intro B3 c3 w5 H5))
   all_goals
    go_ret
    exact ⟨_,_,rfl,H5.swap.drop⟩
 · have lt:i < n:=by omega
   obtain ⟨g,cur,rfl,nc,cm,hcl,htk,H1⟩:=H.rowOpen (by omega)
   have ne:g ≠ b:=fun e => by
    have:=(List.pairwise_cons.1 H1.apart).1 _ (.head _) g (by simp)
    simp [e] at this
   have i1:(0:Int) ≤ (i:Int) + 1:=by omega
   have i2:((i:Int) + 1).toNat = i + 1:=by omega
   have i3:¬ (c = i):=by omega
   have i4:(i:Int) ≤ (n:Int):=by omega
   have i5:¬ ((i:Int) = (n:Int)):=by omega
   have i7:IntKind.i64.wrap ((i:Int) + 1) = (i:Int) + 1:=by simp [IntKind.wrap,IntKind.bits,IntKind.signed]; omega
   have i8:(i:Int) + 1 ≤ (n:Int) + 1:=by omega
   have i10:(i:Int) ≤ (n:Int) + 1:=by omega
   have i6:((i:Int) == (n:Int)) = false:=by rw [beq_eq_false_iff_ne]; exact i5
   have xcell:∀ j u,xs[j]? = some u → w.cell? ⟨g,j,none⟩ = some u:=fun j u hj => by
    refine blk_cell H1.head j ?_
    rw [List.getElem?_toArray]
    have l:=(List.getElem?_eq_some_iff.1 hj).1
    rw [← htk,List.getElem?_take] at hj
    split at hj
    · exact hj
    · cases hj
   have hS:Tryz.prog.underlying 132 = some (.slice 199):=Tryz.underlying132
   by_cases room:n + 1 ≤ c
   · have i9:¬ (c = i + 1):=by omega
     have hin:(i + 1) * 1 ≤ cur.length:=by rw [hcl]; exact Nat.mul_le_mul_right _ (by omega)
     obtain ⟨zs,hzs⟩ : ∃ zs,xs.drop (i * 1) = zs:=⟨_,rfl⟩
     have zl:zs.length = (n - i) * 1:=by rw [← hzs,List.length_drop,hxl,Nat.sub_mul]
     have zcell:∀ j u,zs[j]? = some u → w.cell? ((⟨g,i * 1,none⟩ : Addr).add j) = some u:=fun j u hj => by
      rw [Addr.add_lit]
      exact xcell (i * 1 + j) u (by rw [← hzs,List.getElem?_drop] at hj; exact hj)
     have zone:∀ u ∈ zs,u.oneCell' = true:=fun u hu => h1 u (by rw [← hzs] at hu; exact List.mem_of_mem_drop hu)
     have hov:∀ lb cb,(callFunc 166 #[.slice (some ⟨b,0,none⟩) 1 1,.slice (some ⟨g,(i + 1) * 1,none⟩) lb cb]).run Tryz.prog w = .ok (.value (.bool false)) w:=fun lb cb => by
      rw [run_callFunc_extern Tryz.func166 (by kernel_rfl) (by kernel_rfl) (by kernel_rfl) (e:=Extern.SlicesOverlaps.overlaps #[132,132] #[4]) (by kernel_rfl),
       Lib.run_overlaps_apart w 132 4 199 hS 1 Tryz.sizeOf199 ⟨b,0,none⟩ ⟨g,(i + 1) * 1,none⟩ 1 1 lb cb (fun e => ne e.symm) 199 199 1 (c * 1) ((shapeU hyb).trans (by simp [hy])) ((shapeU H1.head).trans (by simp [hcl])) (by omega) (blk_free hyb 0) (blk_free hyb 1)]
      rfl
     simp only [Nat.mul_one] at hov
     have c63:c ≤ 9223372036854775807:=by unfold maxLen at cm; omega
     have HI:=Lib.hid (And.intro hy (And.intro h2 (And.intro hcl (And.intro htk (And.intro zl (And.intro zcell (And.intro zone (And.intro hzs hxl))))))))
     have HB:=Lib.hid hyb
     have HX:=Lib.hid H1
     have HC:=Lib.hid cm
     clear hy h1 h2 hcl htk zl zcell zone hyb ycell xcell H H1 hzs hxl cm ne
     go_enter Tryz.func154,Tryz.ntmps154
     go_wp2_with (simp only [hov])
     obtain ⟨hy,h2,hcl,htk,zl,zcell,zone,hzs,hxl⟩:=HI.out
     have e1:(i + 1) * 1 = i * 1 + 1:=Nat.succ_mul _ _
     have hfit:(i + 1) * 1 + zs.length ≤ cur.length:=by rw [zl,hcl,← Nat.add_mul]; exact Nat.mul_le_mul_right _ (by omega)
     have r1:=run_copy_at (P:=Tryz.prog) w.drew 132 132 3 199 g ((i + 1) * 1) 1 (n - i) (n + 1 - i) (n - i) (c - (i + 1)) (c - i) ⟨g,i * 1,none⟩ cur.toArray 199 zs hS sizeUG HX.out.head (by show Nat.min _ _ = _; simp only [Nat.min_def]; split <;> omega) zl zcell (by simpa using hfit) zone
     obtain ⟨c1,hc1⟩ : ∃ c1,cur.take ((i + 1) * 1) ++ zs ++ cur.drop ((i + 1) * 1 + zs.length) = c1:=⟨_,rfl⟩
     have l1:c1.length = cur.length:=by rw [← hc1]; simp only [List.length_append,List.length_take,List.length_drop]; omega
     rw [List.toList_toArray,hc1] at r1
     have H2:=Own.setRowU (HX.out.quiet (Wider.refl w).drew) c1.toArray
     obtain ⟨W1,hW1⟩ : ∃ W1,w.drew.setRow g c1.toArray = W1:=⟨_,rfl⟩
     rw [hW1] at r1 H2
     have r2:=run_copy_at (P:=Tryz.prog) W1 132 132 3 199 g (i * 1) 1 (n + 1 - i) 1 1 (c - i) 1 ⟨b,0,none⟩ c1.toArray 199 ys hS sizeUG H2.head (by show Nat.min _ _ = _; simp only [Nat.min_def]; split <;> omega) (by omega) (fun j u hj => by
      rw [Addr.add_lit,Nat.zero_add]
      exact blk_cell H2.second j (by rw [List.getElem?_toArray]; exact hj)) (by rw [List.size_toArray,l1,hy]; omega) h2
     rw [List.toList_toArray] at r2
     have fin:c1.take (i * 1) ++ ys ++ c1.drop (i * 1 + ys.length) = xs.take (i * 1) ++ ys ++ zs ++ cur.drop ((i + 1) * 1 + zs.length):=by
      rw [← hc1,e1,ins_room cur ys zs (i * 1) 1 (by rw [← e1]; exact hin) hy,← htk,List.take_take,Nat.min_eq_left (Nat.mul_le_mul_right _ (by omega))]
     obtain ⟨c2,hc2⟩ : ∃ c2,xs.take (i * 1) ++ ys ++ zs ++ cur.drop ((i + 1) * 1 + zs.length) = c2:=⟨_,rfl⟩
     rw [fin,hc2] at r2
     have H3:=Own.setRowU H2 c2.toArray
     have lf:(xs.take (i * 1) ++ ys ++ zs).length = (n + 1) * 1:=by
      simp only [List.length_append,List.length_take,hxl,zl,hy]
      have:=Nat.mul_le_mul_right 1 (show i ≤ n by omega)
      rw [Nat.min_eq_left this]
      omega
     have H4:=H3.rowShut (n:=n + 1) (c:=c) (k:=1) (xs:=xs.take (i * 1) ++ ys ++ zs) room HC.out (by rw [← hc2,List.length_append,lf,List.length_drop,hcl]; omega) (by rw [← lf,← hc2]; exact List.take_left)
     rw [← hzs] at H4
     simp only [Nat.mul_one] at r1 r2 H4
     have HF:=Lib.hid (H4.swap.drop)
     clear hy h2 hcl htk zl zcell zone hzs hxl e1 hfit l1 H2 fin H3 lf H4 HI HB HX hin hov hc2 hc1 hW1
     go_region_law (refine step_copy_u rfl (.tmp 73) (.tmp 76) 132 132 rfl (by simp [Act.eval,Act.put]) (by simp [Act.eval,Act.put]) r1 ?_)
     all_goals
      go_wp2_with (first
       | (at_builtin; refine wpList_copy_u _ rfl (.tmp 80) (.tmp 81) 132 132 rfl _ _ rfl rfl r2 ?_))
      go_ret
      exact ⟨_,_,rfl,HF.out⟩
   · obtain rfl:c = n:=by omega
     obtain ⟨zs,hzs⟩ : ∃ zs,xs.drop (i * 1) = zs:=⟨_,rfl⟩
     have zl:zs.length = (c - i) * 1:=by rw [← hzs,List.length_drop,hxl,Nat.sub_mul]
     have zone:∀ u ∈ zs,u.oneCell' = true:=fun u hu => h1 u (by rw [← hzs] at hu; exact List.mem_of_mem_drop hu)
     obtain ⟨os,hos⟩ : ∃ os,xs.take (i * 1) = os:=⟨_,rfl⟩
     have ol:os.length = i * 1:=by rw [← hos,List.length_take,hxl]; exact Nat.min_eq_left (Nat.mul_le_mul_right _ (by omega))
     obtain ⟨m,hm⟩ : ∃ m,c + 1 - i = m:=⟨_,rfl⟩
     have hmi:i + m = c + 1:=by omega
     have hold:=run_firstCells_some (P:=Tryz.prog) w.drew i0.size i ⟨g,0,none⟩ i c os (by rw [ol,hz1]) (fun j u hj => by
      rw [Addr.add_lit,Nat.zero_add]
      refine xcell j u ?_
      have l:=(List.getElem?_eq_some_iff.1 hj).1
      rw [← hos,List.getElem?_take] at hj
      split at hj
      · exact hj
      · cases hj)
     have r0:=Lib.run_append_grow_zeros (P:=Tryz.prog) w 132 3 132 199 i0 (.pointer none) .i64 .i64 hS Tryz.underlying3 hi0 hz0 (some ⟨g,0,none⟩) i c os hold m (by omega) (by omega) (by omega) (by omega) (by rw [hz2]; omega) (by rw [hz2]; exact growslice_fits (by omega) (by omega))
     have hge:=grownCap_ge w (i + m) c 199
     have hcm:=grownCap_le_maxLen w (i + m) c 199 (by simp only [maxLen]; omega)
     obtain ⟨C,hC⟩ : ∃ C,grownCap w (i + m) c 199 = C:=⟨_,rfl⟩
     rw [hC] at r0 hge hcm
     obtain ⟨Z,hZ⟩ : ∃ Z,(Builtin.zeroCells (Value.cells (.pointer none)) m ++ Builtin.zeroCells (Value.cells (.pointer none)) (C - (i + m))).toList = Z:=⟨_,rfl⟩
     have hZl:Z.length = (C - i) * 1:=by
      rw [← hZ,Array.length_toList,Array.size_append,size_zeroCells,size_zeroCells]
      show m * 1 + (C - (i + m)) * 1 = _
      rw [← Nat.add_mul]
      congr 1
      omega
     obtain ⟨C0,hC0⟩ : ∃ C0,os ++ Z = C0:=⟨_,rfl⟩
     have e0:os.toArray ++ Builtin.zeroCells (Value.cells (.pointer none)) m ++ Builtin.zeroCells (Value.cells (.pointer none)) (C - (i + m)) = C0.toArray:=by
      apply Array.ext'
      rw [← hC0,← hZ]
      simp
     rw [e0,hmi] at r0
     rw [hmi] at hge
     have l0:C0.length = C * 1:=by
      rw [← hC0,List.length_append,ol,hZl,← Nat.add_mul]
      congr 1
      omega
     have e1:(i + 1) * 1 = i * 1 + 1:=Nat.succ_mul _ _
     have hC1:(c + 1) * 1 ≤ C * 1:=Nat.mul_le_mul_right _ hge
     have hC2:(i + 1) * 1 + (c - i) * 1 = (c + 1) * 1:=by rw [← Nat.add_mul]; congr 1; omega
     have H2:=(H1.quiet (Wider.refl w).drew).blk C0.toArray 199
     obtain ⟨G,hG⟩ : ∃ G,w.heap.size = G:=⟨_,rfl⟩
     have hG2:w.drew.heap.size = G:=hG
     rw [hG2] at H2
     rw [hG] at r0
     obtain ⟨W0,hW0⟩ : ∃ W0,w.drew.alloc (.cells C0.toArray 199) = W0:=⟨_,rfl⟩
     rw [hW0] at r0 H2
     have r1:=run_copy_at (P:=Tryz.prog) W0 132 132 3 199 G (i * 1) 1 m 1 1 (C - i) 1 ⟨b,0,none⟩ C0.toArray 199 ys hS sizeUG H2.head (by show Nat.min _ _ = _; simp only [Nat.min_def]; split <;> omega) (by omega) (fun j u hj => by
      rw [Addr.add_lit,Nat.zero_add]
      exact blk_cell H2.drop.second j (by rw [List.getElem?_toArray]; exact hj)) (by rw [List.size_toArray,l0,hy]; omega) h2
     rw [List.toList_toArray] at r1
     obtain ⟨c1,hc1⟩ : ∃ c1,C0.take (i * 1) ++ ys ++ C0.drop (i * 1 + ys.length) = c1:=⟨_,rfl⟩
     rw [hc1] at r1
     have l1:c1.length = C0.length:=by rw [← hc1]; simp only [List.length_append,List.length_take,List.length_drop]; omega
     have H3:=Own.setRowU H2 c1.toArray
     obtain ⟨W1,hW1⟩ : ∃ W1,W0.setRow G c1.toArray = W1:=⟨_,rfl⟩
     rw [hW1] at r1 H3
     have H3d:=H3.quiet (Wider.refl W1).drew
     have r2:=run_copy_at (P:=Tryz.prog) W1.drew 132 132 3 199 G ((i + 1) * 1) 1 (c - i) (c - i) (c - i) (C - (i + 1)) (c - i) ⟨g,i * 1,none⟩ c1.toArray 199 zs hS sizeUG H3d.head (by show Nat.min _ _ = _; simp only [Nat.min_def]; split <;> omega) zl (fun j u hj => by
      rw [Addr.add_lit]
      refine blk_cell H3d.second (i * 1 + j) ?_
      rw [List.getElem?_toArray]
      have q:=hj
      rw [← hzs,List.getElem?_drop] at q
      have l:=(List.getElem?_eq_some_iff.1 q).1
      rw [← htk,List.getElem?_take] at q
      split at q
      · exact q
      · cases q) (by rw [List.size_toArray,l1,l0,zl]; omega) zone
     rw [List.toList_toArray] at r2
     have fin:c1.take ((i + 1) * 1) ++ zs ++ c1.drop ((i + 1) * 1 + zs.length) = os ++ ys ++ zs ++ C0.drop ((i + 1) * 1 + zs.length):=by
      rw [← hc1,e1,ins_new C0 ys zs (i * 1) 1 (by rw [l0]; omega) hy]
      congr 3
      rw [← hC0,← ol]
      exact List.take_left
     obtain ⟨c2,hc2⟩ : ∃ c2,os ++ ys ++ zs ++ C0.drop ((i + 1) * 1 + zs.length) = c2:=⟨_,rfl⟩
     rw [fin,hc2] at r2
     have H4:=Own.setRowU H3d c2.toArray
     have lf:(os ++ ys ++ zs).length = (c + 1) * 1:=by
      simp only [List.length_append,ol,zl,hy]
      omega
     have H5:=H4.rowShut (n:=c + 1) (c:=C) (k:=1) (xs:=os ++ ys ++ zs) hge hcm (by rw [← hc2,List.length_append,lf,List.length_drop,l0,zl]; omega) (by rw [← lf,← hc2]; exact List.take_left)
     rw [← hzs,← hos] at H5
     simp only [Nat.mul_one] at r0 r1 r2 H5
     have HF2:=Lib.hid ((H5.swap.drop).swap.drop)
     have j1:IntKind.i64.wrap ((c:Int) + 1) = (c:Int) + 1:=by simp [IntKind.wrap,IntKind.bits,IntKind.signed]; omega
     have j2:IntKind.i64.wrap ((c:Int) + 1 - (i:Int)) = (m:Int):=by rw [show (c:Int) + 1 - (i:Int) = (m:Int) by omega]; simp [IntKind.wrap,IntKind.bits,IntKind.signed]; omega
     have j3:¬ (C = i):=by omega
     have j4:¬ (C = i + 1):=by omega
     have j5:(c:Int) + 1 - (i:Int) = (m:Int):=by omega
     clear hy h1 h2 hcl htk zl zone hyb ycell xcell H H1 hzs hxl cm ne H2 H3 H3d H4 H5 fin lf l0 l1 e0 e1 hC0 hC1 hC2 hZ hZl ol hos hold hge hcm hG hG2 hW0 hW1 hc1 hC hc2 nc
     go_enter Tryz.func154,Tryz.ntmps154
     go_upto_region 11 with (first
      | (at_builtin; refine wpList_append_u _ rfl (.tmp 34) (.tmp 39) 132 3 rfl _ _ rfl rfl r0 ?_)
      | (at_builtin; refine wpList_copy_u _ rfl (.tmp 43) (.tmp 44) 132 132 rfl _ _ rfl rfl r1 ?_))
     go_region_law (refine step_copy_u rfl (.tmp 50) (.tmp 53) 132 132 rfl (by simp [Act.eval,Act.put]) (by simp [Act.eval,Act.put]) r2 ?_)
     all_goals
      go_wp2
      go_ret
      exact ⟨_,_,rfl,HF2.out⟩
end Go.Proofs.YtbnpelciceblfaaGreat
