/- UCodeE VMath VDel UAppend -/
import Derived.Test.YtbnpelciceblfaaGreatQ06
namespace Go.Proofs.YtbnpelciceblfaaGreat
set_option linter.unusedVariables false
open Go.ChangeShapes Go.WideShapes Go.ChangeAt Go.RowKit Go.Joins
set_option maxHeartbeats 64000000
theorem zeroUP:∀ v ∈ (Builtin.zeroCells (Value.cells (.agg #[.string ⟨#[]⟩,.string ⟨#[]⟩,.int .i64 0,.int .i64 0,.int .i64 0])) 1).toList,v.oneCell' = true:=by
 have e:(Builtin.zeroCells (Value.cells (.agg #[.string ⟨#[]⟩,.string ⟨#[]⟩,.int .i64 0,.int .i64 0,.int .i64 0])) 1).toList = [.string ⟨#[]⟩,.string ⟨#[]⟩,.int .i64 0,.int .i64 0,.int .i64 0]:=by kernel_rfl
 rw [e]
 intro v hv
 simp only [List.mem_cons,List.not_mem_nil,or_false] at hv
 rcases hv with rfl | rfl | rfl | rfl | rfl <;> rfl
set_option maxRecDepth 20000 in
theorem udelP_1 {V w:World} {R:List Thing} {A:Option Addr} {n c i:Nat} {xs:List Value} (H:Own V w (rowT 207 5 (.slice A n c) n xs :: R)) (h1:∀ u ∈ xs,u.oneCell' = true) (hi:i < n) (hn:n < 1000000) :
 Calls Tryz.prog 151 #[.slice A n c,.int .i64 (i:Int),.int .i64 ((i:Int) + 1)] w fun e w' => e = .returned (.slice A (n - 1) c) ∧ Own V w' (rowT 207 5 (.slice A (n - 1) c) (n - 1) (xs.take (i * 5) ++ xs.drop ((i + 1) * 5)) :: R):=by
 obtain ⟨i0,hi0,hz0,hz1,hz2⟩:=info_parts infoUP
 have hxl:=H.head.1
 obtain ⟨g,cur,rfl,nc,cm,hcl,htk,H1⟩:=H.rowOpen (by omega)
 have hS:Tryz.prog.underlying 216 = some (.slice 207):=Tryz.underlying216
 obtain ⟨m,hm⟩ : ∃ m,n - 1 = m:=⟨_,rfl⟩
 have hnm:n = m + 1:=by omega
 obtain ⟨zs,hzs⟩ : ∃ zs,xs.drop ((i + 1) * 5) = zs:=⟨_,rfl⟩
 have zl:zs.length = (m - i) * 5:=by rw [← hzs,List.length_drop,hxl,← Nat.sub_mul,hnm]; congr 1; omega
 have zone:∀ u ∈ zs,u.oneCell' = true:=fun u hu => h1 u (by rw [← hzs] at hu; exact List.mem_of_mem_drop hu)
 obtain ⟨af,haf,haf2⟩ : ∃ af:Addr,(zs ≠ [] → af = ⟨g,(i + 1) * 5,none⟩) ∧ (if c = i + 1 then (⟨g,0,none⟩ : Addr) else ⟨g,(i + 1) * 5,none⟩) = af:=by
  refine ⟨_,fun hz => ?_,rfl⟩
  rw [if_neg]
  intro q
  have:zs.length = 0:=by rw [zl,show m - i = 0 by omega,Nat.zero_mul]
  exact hz (List.eq_nil_of_length_eq_zero this)
 have zcell:∀ j u,zs[j]? = some u → w.drew.cell? (af.add j) = some u:=fun j u hj => by
  rw [haf (fun e => by rw [e] at hj; simp at hj),Addr.add_lit]
  refine blk_cell H1.head ((i + 1) * 5 + j) ?_
  rw [List.getElem?_toArray]
  have q:=hj
  rw [← hzs,List.getElem?_drop,← htk,List.getElem?_take] at q
  split at q
  · exact q
  · cases q
 have lz:i * 5 + zs.length = m * 5:=by rw [zl,← Nat.add_mul]; congr 1; omega
 have lm:m * 5 + 5 = n * 5:=by rw [hnm,Nat.succ_mul]
 have lc:n * 5 ≤ c * 5:=Nat.mul_le_mul_right _ nc
 have r1:=run_append_room (P:=Tryz.prog) w.drew 216 216 207 i0 hS hi0 g i c cur.toArray H1.head af (m - i) (c - (i + 1)) zs (by rw [hz1]; exact zl) zcell zone (by omega) (by rw [hz1,List.size_toArray,hcl,lz]; omega)
 rw [hz1,lz,List.toList_toArray,show i + (m - i) = m by omega] at r1
 obtain ⟨c1,hc1⟩ : ∃ c1,cur.take (i * 5) ++ zs ++ cur.drop (m * 5) = c1:=⟨_,rfl⟩
 rw [hc1] at r1
 have la:(cur.take (i * 5) ++ zs).length = m * 5:=by rw [List.length_append,List.length_take,hcl]; omega
 have l1:c1.length = c * 5:=by rw [← hc1,List.length_append,la,List.length_drop,hcl]; omega
 have H2:=Own.setRowU (H1.quiet (Wider.refl w).drew) c1.toArray
 obtain ⟨W1,hW1⟩ : ∃ W1,w.drew.setRow g c1.toArray = W1:=⟨_,rfl⟩
 rw [hW1] at r1 H2
 obtain ⟨Z,hZ⟩ : ∃ Z,(Builtin.zeroCells (Value.cells (.agg #[.string ⟨#[]⟩,.string ⟨#[]⟩,.int .i64 0,.int .i64 0,.int .i64 0])) 1).toList = Z:=⟨_,rfl⟩
 have lZ:Z.length = 5:=by rw [← hZ,Array.length_toList,size_zeroCells]; rfl
 have r2:=run_clear_at (P:=Tryz.prog) W1 216 207 0 (.agg #[.string ⟨#[]⟩,.string ⟨#[]⟩,.int .i64 0,.int .i64 0,.int .i64 0]) 5 hS (Tryz.zeroValue207 _) rfl zeroUP g (m * 5) (c - m) c1.toArray 207 H2.head (by rw [List.size_toArray,l1]; omega)
 rw [hZ,List.toList_toArray] at r2
 obtain ⟨c2,hc2⟩ : ∃ c2,c1.take (m * 5) ++ Z ++ c1.drop (m * 5 + 5) = c2:=⟨_,rfl⟩
 rw [hc2] at r2
 have H3:=Own.setRowU H2 c2.toArray
 have t1:c1.take (m * 5) = cur.take (i * 5) ++ zs:=by rw [← hc1,← la]; exact List.take_left
 have t2:cur.take (i * 5) = xs.take (i * 5):=by rw [← htk,List.take_take,Nat.min_eq_left (Nat.mul_le_mul_right _ (by omega))]
 have H4:=H3.rowShut (n:=m) (c:=c) (k:=5) (xs:=xs.take (i * 5) ++ xs.drop ((i + 1) * 5)) (by omega) cm (by rw [← hc2,List.length_append,List.length_append,lZ,t1,la,List.length_drop,l1]; omega) (by rw [← hc2,t1,List.append_assoc,hzs,← t2,← la]; exact List.take_left)
 have HF:=Lib.hid H4
 have z1:((i:Int) == (i:Int) + 1) = false:=by rw [beq_eq_false_iff_ne]; omega
 have z2:¬ ((i:Int) = (i:Int) + 1):=by omega
 have i1:(0:Int) ≤ (i:Int) + 1:=by omega
 have i2:((i:Int) + 1).toNat = i + 1:=by omega
 have i3:(i:Int) + 1 ≤ (n:Int):=by omega
 have i4:(i:Int) ≤ (i:Int) + 1:=by omega
 have i5:(n:Int) ≤ (c:Int):=by omega
 have i6:(i:Int) ≤ (n:Int):=by omega
 have i7:¬ (n = i):=by omega
 have i8:(m:Int) ≤ (n:Int):=by omega
 have i9:¬ (c = m):=by omega
 have ia:n - m = 1:=by omega
 have ib:(i:Int) ≤ (c:Int):=by omega
 have ic:n - (i + 1) = m - i:=by omega
 rw [hm]
 clear hxl hcl htk H H1 zl zone haf zcell lz lm lc hc1 la l1 H2 hW1 hZ lZ hc2 H3 t1 t2 H4 hzs h1 hS cm hz0 hz1 hz2 hi0 nc hnm hm
 by_cases q:c = i + 1
 · rw [if_pos q] at haf2
   subst haf2 q
   simp only [Nat.sub_self] at r1
   go_enter Tryz.func151,Tryz.ntmps151
   go_wp2
   go_region_law (refine step_append_u rfl (.tmp 22) (.tmp 25) 216 216 rfl (by simp [Act.eval,Act.put]) (by simp [Act.eval,Act.put]) r1 ?_)
   all_goals
    go_wp2_with (first
     | (at_builtin; refine wpList_clear_u _ rfl (.tmp 31) 216 rfl _ rfl r2 ?_))
    go_ret
    exact ⟨rfl,HF.out⟩
 · rw [if_neg q] at haf2
   subst haf2
   go_enter Tryz.func151,Tryz.ntmps151
   go_wp2
   go_region_law (refine step_append_u rfl (.tmp 22) (.tmp 25) 216 216 rfl (by simp [Act.eval,Act.put]) (by simp [Act.eval,Act.put]) r1 ?_)
   all_goals
    go_wp2_with (first
     | (at_builtin; refine wpList_clear_u _ rfl (.tmp 31) 216 rfl _ rfl r2 ?_))
    go_ret
    exact ⟨rfl,HF.out⟩
theorem zeroUI:∀ v ∈ (Builtin.zeroCells (Value.cells (.int .i64 0)) 1).toList,v.oneCell' = true:=by
 have e:(Builtin.zeroCells (Value.cells (.int .i64 0)) 1).toList = [.int .i64 0]:=by kernel_rfl
 rw [e]
 intro v hv
 simp only [List.mem_cons,List.not_mem_nil,or_false] at hv
 subst hv; rfl
set_option maxRecDepth 20000 in
theorem udelI_1 {V w:World} {R:List Thing} {A:Option Addr} {n c i:Nat} {xs:List Value} (H:Own V w (rowT 3 1 (.slice A n c) n xs :: R)) (h1:∀ u ∈ xs,u.oneCell' = true) (hi:i < n) (hn:n < 1000000) :
 Calls Tryz.prog 153 #[.slice A n c,.int .i64 (i:Int),.int .i64 ((i:Int) + 1)] w fun e w' => e = .returned (.slice A (n - 1) c) ∧ Own V w' (rowT 3 1 (.slice A (n - 1) c) (n - 1) (xs.take i ++ xs.drop (i + 1)) :: R):=by
 obtain ⟨i0,hi0,hz0,hz1,hz2⟩:=info_parts infoUI
 have hxl:=H.head.1
 obtain ⟨g,cur,rfl,nc,cm,hcl,htk,H1⟩:=H.rowOpen (by omega)
 have hS:Tryz.prog.underlying 34 = some (.slice 3):=Tryz.underlying34
 obtain ⟨m,hm⟩ : ∃ m,n - 1 = m:=⟨_,rfl⟩
 have hnm:n = m + 1:=by omega
 obtain ⟨zs,hzs⟩ : ∃ zs,xs.drop ((i + 1) * 1) = zs:=⟨_,rfl⟩
 have zl:zs.length = (m - i) * 1:=by rw [← hzs,List.length_drop,hxl,← Nat.sub_mul,hnm]; congr 1; omega
 have zone:∀ u ∈ zs,u.oneCell' = true:=fun u hu => h1 u (by rw [← hzs] at hu; exact List.mem_of_mem_drop hu)
 obtain ⟨af,haf,haf2⟩ : ∃ af:Addr,(zs ≠ [] → af = ⟨g,(i + 1) * 1,none⟩) ∧ (if c = i + 1 then (⟨g,0,none⟩ : Addr) else ⟨g,(i + 1) * 1,none⟩) = af:=by
  refine ⟨_,fun hz => ?_,rfl⟩
  rw [if_neg]
  intro q
  have:zs.length = 0:=by rw [zl,show m - i = 0 by omega,Nat.zero_mul]
  exact hz (List.eq_nil_of_length_eq_zero this)
 have zcell:∀ j u,zs[j]? = some u → w.drew.cell? (af.add j) = some u:=fun j u hj => by
  rw [haf (fun e => by rw [e] at hj; simp at hj),Addr.add_lit]
  refine blk_cell H1.head ((i + 1) * 1 + j) ?_
  rw [List.getElem?_toArray]
  have q:=hj
  rw [← hzs,List.getElem?_drop,← htk,List.getElem?_take] at q
  split at q
  · exact q
  · cases q
 have lz:i * 1 + zs.length = m * 1:=by rw [zl,← Nat.add_mul]; congr 1; omega
 have lm:m * 1 + 1 = n * 1:=by rw [hnm,Nat.succ_mul]
 have lc:n * 1 ≤ c * 1:=Nat.mul_le_mul_right _ nc
 have r1:=run_append_room (P:=Tryz.prog) w.drew 34 34 3 i0 hS hi0 g i c cur.toArray H1.head af (m - i) (c - (i + 1)) zs (by rw [hz1]; exact zl) zcell zone (by omega) (by rw [hz1,List.size_toArray,hcl,lz]; omega)
 rw [hz1,lz,List.toList_toArray,show i + (m - i) = m by omega] at r1
 obtain ⟨c1,hc1⟩ : ∃ c1,cur.take (i * 1) ++ zs ++ cur.drop (m * 1) = c1:=⟨_,rfl⟩
 rw [hc1] at r1
 have la:(cur.take (i * 1) ++ zs).length = m * 1:=by rw [List.length_append,List.length_take,hcl]; omega
 have l1:c1.length = c * 1:=by rw [← hc1,List.length_append,la,List.length_drop,hcl]; omega
 have H2:=Own.setRowU (H1.quiet (Wider.refl w).drew) c1.toArray
 obtain ⟨W1,hW1⟩ : ∃ W1,w.drew.setRow g c1.toArray = W1:=⟨_,rfl⟩
 rw [hW1] at r1 H2
 obtain ⟨Z,hZ⟩ : ∃ Z,(Builtin.zeroCells (Value.cells (.int .i64 0)) 1).toList = Z:=⟨_,rfl⟩
 have lZ:Z.length = 1:=by rw [← hZ,Array.length_toList,size_zeroCells]; rfl
 have r2:=run_clear_at (P:=Tryz.prog) W1 34 3 0 (.int .i64 0) 1 hS (Tryz.zeroValue3 _) rfl zeroUI g (m * 1) (c - m) c1.toArray 3 H2.head (by rw [List.size_toArray,l1]; omega)
 rw [hZ,List.toList_toArray] at r2
 obtain ⟨c2,hc2⟩ : ∃ c2,c1.take (m * 1) ++ Z ++ c1.drop (m * 1 + 1) = c2:=⟨_,rfl⟩
 rw [hc2] at r2
 have H3:=Own.setRowU H2 c2.toArray
 have t1:c1.take (m * 1) = cur.take (i * 1) ++ zs:=by rw [← hc1,← la]; exact List.take_left
 have t2:cur.take (i * 1) = xs.take (i * 1):=by rw [← htk,List.take_take,Nat.min_eq_left (Nat.mul_le_mul_right _ (by omega))]
 have H4:=H3.rowShut (n:=m) (c:=c) (k:=1) (xs:=xs.take (i * 1) ++ xs.drop ((i + 1) * 1)) (by omega) cm (by rw [← hc2,List.length_append,List.length_append,lZ,t1,la,List.length_drop,l1]; omega) (by rw [← hc2,t1,List.append_assoc,hzs,← t2,← la]; exact List.take_left)
 simp only [Nat.mul_one] at r1 r2 H4
 have HF:=Lib.hid H4
 have z1:((i:Int) == (i:Int) + 1) = false:=by rw [beq_eq_false_iff_ne]; omega
 have z2:¬ ((i:Int) = (i:Int) + 1):=by omega
 have i1:(0:Int) ≤ (i:Int) + 1:=by omega
 have i2:((i:Int) + 1).toNat = i + 1:=by omega
 have i3:(i:Int) + 1 ≤ (n:Int):=by omega
 have i4:(i:Int) ≤ (i:Int) + 1:=by omega
 have i5:(n:Int) ≤ (c:Int):=by omega
 have i6:(i:Int) ≤ (n:Int):=by omega
 have i7:¬ (n = i):=by omega
 have i8:(m:Int) ≤ (n:Int):=by omega
 have i9:¬ (c = m):=by omega
 have ia:n - m = 1:=by omega
 have ib:(i:Int) ≤ (c:Int):=by omega
 have ic:n - (i + 1) = m - i:=by omega
 rw [hm]
 clear hxl hcl htk H H1 zl zone haf zcell lz lm lc hc1 la l1 H2 hW1 hZ lZ hc2 H3 t1 t2 H4 hzs h1 hS cm hz0 hz1 hz2 hi0 nc hnm hm
 by_cases q:c = i + 1
 · rw [if_pos q] at haf2
   subst haf2 q
   simp only [Nat.sub_self] at r1
   go_enter Tryz.func153,Tryz.ntmps153
   go_wp2
   go_region_law (refine step_append_u rfl (.tmp 22) (.tmp 25) 34 34 rfl (by simp [Act.eval,Act.put]) (by simp [Act.eval,Act.put]) r1 ?_)
   all_goals
    go_wp2_with (first
     | (at_builtin; refine wpList_clear_u _ rfl (.tmp 31) 34 rfl _ rfl r2 ?_))
    go_ret
    exact ⟨rfl,HF.out⟩
 · rw [if_neg q] at haf2
   subst haf2
   simp only [Nat.mul_one] at r1
   go_enter Tryz.func153,Tryz.ntmps153
   go_wp2
   go_region_law (refine step_append_u rfl (.tmp 22) (.tmp 25) 34 34 rfl (by simp [Act.eval,Act.put]) (by simp [Act.eval,Act.put]) r1 ?_)
   all_goals
    go_wp2_with (first
     | (at_builtin; refine wpList_clear_u _ rfl (.tmp 31) 34 rfl _ rfl r2 ?_))
    go_ret
    exact ⟨rfl,HF.out⟩
theorem zeroUG:∀ v ∈ (Builtin.zeroCells (Value.cells (.pointer none)) 1).toList,v.oneCell' = true:=by
 have e:(Builtin.zeroCells (Value.cells (.pointer none)) 1).toList = [.pointer none]:=by kernel_rfl
 rw [e]
 intro v hv
 simp only [List.mem_cons,List.not_mem_nil,or_false] at hv
 subst hv; rfl
set_option maxRecDepth 20000 in
theorem udelG_1 {V w:World} {R:List Thing} {A:Option Addr} {n c i:Nat} {xs:List Value} (H:Own V w (rowT 199 1 (.slice A n c) n xs :: R)) (h1:∀ u ∈ xs,u.oneCell' = true) (hi:i < n) (hn:n < 1000000) :
 Calls Tryz.prog 150 #[.slice A n c,.int .i64 (i:Int),.int .i64 ((i:Int) + 1)] w fun e w' => e = .returned (.slice A (n - 1) c) ∧ Own V w' (rowT 199 1 (.slice A (n - 1) c) (n - 1) (xs.take i ++ xs.drop (i + 1)) :: R):=by
 obtain ⟨i0,hi0,hz0,hz1,hz2⟩:=info_parts infoUG
 have hxl:=H.head.1
 obtain ⟨g,cur,rfl,nc,cm,hcl,htk,H1⟩:=H.rowOpen (by omega)
 have hS:Tryz.prog.underlying 132 = some (.slice 199):=Tryz.underlying132
 obtain ⟨m,hm⟩ : ∃ m,n - 1 = m:=⟨_,rfl⟩
 have hnm:n = m + 1:=by omega
 obtain ⟨zs,hzs⟩ : ∃ zs,xs.drop ((i + 1) * 1) = zs:=⟨_,rfl⟩
 have zl:zs.length = (m - i) * 1:=by rw [← hzs,List.length_drop,hxl,← Nat.sub_mul,hnm]; congr 1; omega
 have zone:∀ u ∈ zs,u.oneCell' = true:=fun u hu => h1 u (by rw [← hzs] at hu; exact List.mem_of_mem_drop hu)
 obtain ⟨af,haf,haf2⟩ : ∃ af:Addr,(zs ≠ [] → af = ⟨g,(i + 1) * 1,none⟩) ∧ (if c = i + 1 then (⟨g,0,none⟩ : Addr) else ⟨g,(i + 1) * 1,none⟩) = af:=by
  refine ⟨_,fun hz => ?_,rfl⟩
  rw [if_neg]
  intro q
  have:zs.length = 0:=by rw [zl,show m - i = 0 by omega,Nat.zero_mul]
  exact hz (List.eq_nil_of_length_eq_zero this)
 have zcell:∀ j u,zs[j]? = some u → w.drew.cell? (af.add j) = some u:=fun j u hj => by
  rw [haf (fun e => by rw [e] at hj; simp at hj),Addr.add_lit]
  refine blk_cell H1.head ((i + 1) * 1 + j) ?_
  rw [List.getElem?_toArray]
  have q:=hj
  rw [← hzs,List.getElem?_drop,← htk,List.getElem?_take] at q
  split at q
  · exact q
  · cases q
 have lz:i * 1 + zs.length = m * 1:=by rw [zl,← Nat.add_mul]; congr 1; omega
 have lm:m * 1 + 1 = n * 1:=by rw [hnm,Nat.succ_mul]
 have lc:n * 1 ≤ c * 1:=Nat.mul_le_mul_right _ nc
 have r1:=run_append_room (P:=Tryz.prog) w.drew 132 132 199 i0 hS hi0 g i c cur.toArray H1.head af (m - i) (c - (i + 1)) zs (by rw [hz1]; exact zl) zcell zone (by omega) (by rw [hz1,List.size_toArray,hcl,lz]; omega)
 rw [hz1,lz,List.toList_toArray,show i + (m - i) = m by omega] at r1
 obtain ⟨c1,hc1⟩ : ∃ c1,cur.take (i * 1) ++ zs ++ cur.drop (m * 1) = c1:=⟨_,rfl⟩
 rw [hc1] at r1
 have la:(cur.take (i * 1) ++ zs).length = m * 1:=by rw [List.length_append,List.length_take,hcl]; omega
 have l1:c1.length = c * 1:=by rw [← hc1,List.length_append,la,List.length_drop,hcl]; omega
 have H2:=Own.setRowU (H1.quiet (Wider.refl w).drew) c1.toArray
 obtain ⟨W1,hW1⟩ : ∃ W1,w.drew.setRow g c1.toArray = W1:=⟨_,rfl⟩
 rw [hW1] at r1 H2
 obtain ⟨Z,hZ⟩ : ∃ Z,(Builtin.zeroCells (Value.cells (.pointer none)) 1).toList = Z:=⟨_,rfl⟩
 have lZ:Z.length = 1:=by rw [← hZ,Array.length_toList,size_zeroCells]; rfl
 have r2:=run_clear_at (P:=Tryz.prog) W1 132 199 0 (.pointer none) 1 hS (Tryz.zeroValue199 _) rfl zeroUG g (m * 1) (c - m) c1.toArray 199 H2.head (by rw [List.size_toArray,l1]; omega)
 rw [hZ,List.toList_toArray] at r2
 obtain ⟨c2,hc2⟩ : ∃ c2,c1.take (m * 1) ++ Z ++ c1.drop (m * 1 + 1) = c2:=⟨_,rfl⟩
 rw [hc2] at r2
 have H3:=Own.setRowU H2 c2.toArray
 have t1:c1.take (m * 1) = cur.take (i * 1) ++ zs:=by rw [← hc1,← la]; exact List.take_left
 have t2:cur.take (i * 1) = xs.take (i * 1):=by rw [← htk,List.take_take,Nat.min_eq_left (Nat.mul_le_mul_right _ (by omega))]
 have H4:=H3.rowShut (n:=m) (c:=c) (k:=1) (xs:=xs.take (i * 1) ++ xs.drop ((i + 1) * 1)) (by omega) cm (by rw [← hc2,List.length_append,List.length_append,lZ,t1,la,List.length_drop,l1]; omega) (by rw [← hc2,t1,List.append_assoc,hzs,← t2,← la]; exact List.take_left)
 simp only [Nat.mul_one] at r1 r2 H4
 have HF:=Lib.hid H4
 have z1:((i:Int) == (i:Int) + 1) = false:=by rw [beq_eq_false_iff_ne]; omega
 have z2:¬ ((i:Int) = (i:Int) + 1):=by omega
 have i1:(0:Int) ≤ (i:Int) + 1:=by omega
 have i2:((i:Int) + 1).toNat = i + 1:=by omega
 have i3:(i:Int) + 1 ≤ (n:Int):=by omega
 have i4:(i:Int) ≤ (i:Int) + 1:=by omega
 have i5:(n:Int) ≤ (c:Int):=by omega
 have i6:(i:Int) ≤ (n:Int):=by omega
 have i7:¬ (n = i):=by omega
 have i8:(m:Int) ≤ (n:Int):=by omega
 have i9:¬ (c = m):=by omega
 have ia:n - m = 1:=by omega
 have ib:(i:Int) ≤ (c:Int):=by omega
 have ic:n - (i + 1) = m - i:=by omega
 rw [hm]
 clear hxl hcl htk H H1 zl zone haf zcell lz lm lc hc1 la l1 H2 hW1 hZ lZ hc2 H3 t1 t2 H4 hzs h1 hS cm hz0 hz1 hz2 hi0 nc hnm hm
 by_cases q:c = i + 1
 · rw [if_pos q] at haf2
   subst haf2 q
   simp only [Nat.sub_self] at r1
   go_enter Tryz.func150,Tryz.ntmps150
   go_wp2
   go_region_law (refine step_append_u rfl (.tmp 22) (.tmp 25) 132 132 rfl (by simp [Act.eval,Act.put]) (by simp [Act.eval,Act.put]) r1 ?_)
   all_goals
    go_wp2_with (first
     | (at_builtin; refine wpList_clear_u _ rfl (.tmp 31) 132 rfl _ rfl r2 ?_))
    go_ret
    exact ⟨rfl,HF.out⟩
 · rw [if_neg q] at haf2
   subst haf2
   simp only [Nat.mul_one] at r1
   go_enter Tryz.func150,Tryz.ntmps150
   go_wp2
   go_region_law (refine step_append_u rfl (.tmp 22) (.tmp 25) 132 132 rfl (by simp [Act.eval,Act.put]) (by simp [Act.eval,Act.put]) r1 ?_)
   all_goals
    go_wp2_with (first
     | (at_builtin; refine wpList_clear_u _ rfl (.tmp 31) 132 rfl _ rfl r2 ?_))
    go_ret
    exact ⟨rfl,HF.out⟩
end Go.Proofs.YtbnpelciceblfaaGreat
namespace Go.Proofs.YtbnpelciceblfaaGreat
set_option linter.unusedVariables false
set_option maxHeartbeats 64000000
structure ItR where
 low:ByteArray
 high:ByteArray
 prio:Int
 v:Int
 deriving DecidableEq
theorem bl_self:∀ l:List UInt8,Op.bytesLess l l = false
 | [] => rfl
 | a :: l => by
   unfold Op.bytesLess
   rw [bl_self l]
   simp
theorem bl_asymm:∀ a b:List UInt8,Op.bytesLess a b = true → Op.bytesLess b a = false
 | [],[],h => by simp [Op.bytesLess] at h
 | [],_ :: _,_ => rfl
 | _ :: _,[],h => by simp [Op.bytesLess] at h
 | a :: x,b :: y,h => by
   simp only [Op.bytesLess,Bool.or_eq_true,decide_eq_true_eq,Bool.and_eq_true,beq_iff_eq] at h
   simp only [Op.bytesLess,Bool.or_eq_false_iff,decide_eq_false_iff_not,Bool.and_eq_false_iff,beq_eq_false_iff_ne]
   rcases h with h | ⟨rfl,h⟩
   · have h:=UInt8.lt_iff_toNat_lt.1 h
     exact ⟨fun k => by have:=UInt8.lt_iff_toNat_lt.1 k; omega,.inl fun e => by subst e; omega⟩
   · exact ⟨fun k => by have:=UInt8.lt_iff_toNat_lt.1 k; omega,.inr (bl_asymm x y h)⟩
def ltB (a b:ByteArray):Bool:=Op.bytesLess a.data.toList b.data.toList
def inB (p lo hi:ByteArray):Bool:=!ltB p lo && (ltB p hi || p.data.toList == hi.data.toList)
theorem inB_eq (p lo hi:ByteArray):inB p lo hi = (!Op.bytesLess p.toList lo.toList && (Op.bytesLess p.toList hi.toList || p.toList == hi.toList)):=by
 unfold inB ltB
 rw [ByteArray.toList_eq,ByteArray.toList_eq,ByteArray.toList_eq]
def atMost (a b:ByteArray):Bool:=ltB a b || a.data.toList == b.data.toList
theorem inB_low (lo hi:ByteArray):inB lo lo hi = atMost lo hi:=by
 unfold inB atMost ltB
 rw [bl_self]; rfl
def inF (key:ByteArray) (x:ItR):Nat → List Nat → Bool
 | _,[] => true
 | o,n :: ws => inB (key.extract o (o + n)) (x.low.extract o (o + n)) (x.high.extract o (o + n)) && inF key x (o + n) ws
def inK (ws:List Nat) (key:ByteArray) (x:ItR):Bool:=inF key x 0 ws
def pickR (ws:List Nat) (key:ByteArray) (b:Option ItR) (x:ItR):Option ItR :=
 if inK ws key x = true ∧ (∀ y,b = some y → y.prio < x.prio) then some x else b
def bestF (ws:List Nat) (key:ByteArray) (L:List ItR):Option ItR:=L.foldl (pickR ws key) none
def findR (ws:List Nat) (key:ByteArray) (L:List ItR):Option ItR:=if key.size = ws.sum then bestF ws key L else none
def numR (o:Option ItR):Int:=match o with | none => 0 | some x => x.v
theorem pick_no {ws:List Nat} {key:ByteArray} {b:Option ItR} {x:ItR} (h:inK ws key x = false):pickR ws key b x = b:=by
 unfold pickR
 rw [if_neg fun q => by rw [h] at q; cases q.1]
theorem pick_none {ws:List Nat} {key:ByteArray} {x:ItR} (h:inK ws key x = true):pickR ws key none x = some x:=by
 unfold pickR
 rw [if_pos ⟨h,fun y e => by cases e⟩]
theorem pick_more {ws:List Nat} {key:ByteArray} {x y:ItR} (h:inK ws key x = true) (k:y.prio < x.prio):pickR ws key (some y) x = some x:=by
 unfold pickR
 rw [if_pos ⟨h,fun z e => by cases e; exact k⟩]
theorem pick_less {ws:List Nat} {key:ByteArray} {x y:ItR} (k:¬ y.prio < x.prio):pickR ws key (some y) x = some y:=by
 unfold pickR
 rw [if_neg fun q => k (q.2 y rfl)]
theorem bestF_snoc (ws:List Nat) (key:ByteArray) (L:List ItR) (x:ItR):bestF ws key (L ++ [x]) = pickR ws key (bestF ws key L) x:=by
 unfold bestF
 rw [List.foldl_append]; rfl
def SameR (x y:ItR):Prop:=x.low = y.low ∧ x.high = y.high ∧ x.prio = y.prio
instance (x y:ItR):Decidable (SameR x y):=inferInstanceAs (Decidable (_ ∧ _ ∧ _))
def butR (L:List ItR) (x:ItR):List ItR:=L.filter fun y => decide (¬ SameR y x)
def FineR (L:List ItR):Prop:=L.Pairwise fun a b => ¬ SameR a b
theorem SameR.symm {x y:ItR} (h:SameR x y):SameR y x:=⟨h.1.symm,h.2.1.symm,h.2.2.symm⟩
theorem SameR.trans {x y z:ItR} (h:SameR x y) (k:SameR y z):SameR x z:=⟨h.1.trans k.1,h.2.1.trans k.2.1,h.2.2.trans k.2.2⟩
theorem butR_none {L:List ItR} {x:ItR} (h:∀ y ∈ L,¬ SameR y x):butR L x = L:=List.filter_eq_self.2 fun y hy => decide_eq_true (h y hy)
theorem butR_no {L:List ItR} {x y:ItR} (h:y ∈ butR L x):y ∈ L ∧ ¬ SameR y x:=by
 obtain ⟨h1,h2⟩:=List.mem_filter.1 h
 exact ⟨h1,of_decide_eq_true h2⟩
theorem butR_mid {A B:List ItR} {x y:ItR} (hA:∀ z ∈ A,¬ SameR z x) (hy:SameR y x) (hB:∀ z ∈ B,¬ SameR z x):butR (A ++ y :: B) x = A ++ B:=by
 unfold butR
 rw [List.filter_append,List.filter_cons,if_neg (by simp [hy])]
 rw [show A.filter (fun y => decide (¬ SameR y x)) = A from butR_none hA,show B.filter (fun y => decide (¬ SameR y x)) = B from butR_none hB]
theorem FineR.but {L:List ItR} (h:FineR L) (x:ItR):FineR (butR L x):=List.Pairwise.filter _ h
theorem FineR.put {L:List ItR} (h:FineR L) (x:ItR):FineR (butR L x ++ [x]):=by
 refine List.pairwise_append.2 ⟨h.but x,List.pairwise_singleton _ _,fun a ha b hb => ?_⟩
 obtain rfl:b = x:=by simpa using hb
 exact (butR_no ha).2
theorem FineR.mid {A B:List ItR} {y:ItR} (h:FineR (A ++ y :: B)) {x:ItR} (hy:SameR y x):(∀ z ∈ A,¬ SameR z x) ∧ ∀ z ∈ B,¬ SameR z x:=by
 obtain ⟨h1,h2,h3⟩:=List.pairwise_append.1 h
 refine ⟨fun z hz q => h3 z hz y (.head _) (q.trans hy.symm),fun z hz q => (List.pairwise_cons.1 h2).1 z hz (hy.trans q.symm)⟩
theorem butR_len {L:List ItR} (x:ItR):(butR L x).length ≤ L.length:=List.length_filter_le _ _
theorem first_same (L:List ItR) (x:ItR):(∀ y ∈ L,¬ SameR y x) ∨ ∃ (A B:List ItR) (y:ItR),L = A ++ y :: B ∧ SameR y x ∧ ∀ z ∈ A,¬ SameR z x:=by
 induction L with
 | nil => exact .inl fun y h => by cases h
 | cons a L ih =>
   by_cases c:SameR a x
   · exact .inr ⟨[],L,a,rfl,c,fun z h => by cases h⟩
   · rcases ih with ih | ⟨A,B,y,rfl,h1,h2⟩
     · refine .inl fun y hy => ?_
       rcases List.mem_cons.1 hy with rfl | hy
       · exact c
       · exact ih y hy
     · refine .inr ⟨a :: A,B,y,rfl,h1,fun z hz => ?_⟩
       rcases List.mem_cons.1 hz with rfl | hz
       · exact c
       · exact h2 z hz
def cellsOneR (x:ItR):List Value:=[.string x.low,.string x.high,.int .i64 x.prio,.int .i64 x.v]
def cellsR (l:List ItR):List Value:=l.flatMap cellsOneR
abbrev aggR (x:ItR):Value:=.agg #[.string x.low,.string x.high,.int .i64 x.prio,.int .i64 x.v]
def zeroR:ItR:=⟨⟨#[]⟩,⟨#[]⟩,0,0⟩
theorem cellsR_cons (x:ItR) (l:List ItR):cellsR (x :: l) = .string x.low :: .string x.high :: .int .i64 x.prio :: .int .i64 x.v :: cellsR l:=rfl
theorem cellsR_length (l:List ItR):(cellsR l).length = l.length * 4:=by
 induction l with
 | nil => rfl
 | cons x l ih => rw [cellsR_cons]; simp only [List.length_cons,ih]; omega
theorem cellsR_append (a b:List ItR):cellsR (a ++ b) = cellsR a ++ cellsR b:=List.flatMap_append
theorem cellsR_at:∀ (l:List ItR) (j:Nat) (x:ItR),l[j]? = some x → (cellsR l)[j * 4]? = some (.string x.low) ∧ (cellsR l)[j * 4 + 1]? = some (.string x.high) ∧ (cellsR l)[j * 4 + 2]? = some (.int .i64 x.prio) ∧ (cellsR l)[j * 4 + 3]? = some (.int .i64 x.v)
 | [],j,x,h => by simp at h
 | y :: l,0,x,h => by
   obtain rfl:y = x:=by simpa using h
   exact ⟨rfl,rfl,rfl,rfl⟩
 | y :: l,j + 1,x,h => by
   have h:l[j]? = some x:=by simpa using h
   obtain ⟨a,b,c,d⟩:=cellsR_at l j x h
   rw [cellsR_cons,show (j + 1) * 4 = j * 4 + 4 by omega]
   exact ⟨a,b,c,d⟩
theorem cellsR_one (l:List ItR):∀ u ∈ cellsR l,u.oneCell' = true:=by
 intro u hu
 obtain ⟨x,_,h⟩:=List.mem_flatMap.1 hu
 simp only [cellsOneR,List.mem_cons,List.not_mem_nil,or_false] at h
 rcases h with rfl | rfl | rfl | rfl <;> rfl
theorem cellsR_less {A B:List ItR} (p:ItR):(cellsR (A ++ p :: B)).take (A.length * 4) ++ (cellsR (A ++ p :: B)).drop ((A.length + 1) * 4) = cellsR (A ++ B):=by
 rw [cellsR_append,cellsR_append,List.take_left' (cellsR_length A)]
 congr 1
 rw [show (A.length + 1) * 4 = (cellsR A).length + 4 by rw [cellsR_length]; omega,List.drop_append,List.drop_eq_nil_of_le (by omega),show (cellsR A).length + 4 - (cellsR A).length = 4 by omega]
 rfl
def intsW (ws:List Nat):List Value:=ws.map fun (n:Nat) => Value.int .i64 (n:Int)
theorem intsW_at {ws:List Nat} {j n:Nat} (h:ws[j]? = some n):(intsW ws)[j]? = some (.int .i64 (n:Int)):=by
 unfold intsW; rw [List.getElem?_map,h]; rfl
theorem intsW_one (ws:List Nat):∀ u ∈ intsW ws,u.oneCell' = true:=by
 intro u hu
 obtain ⟨x,_,rfl⟩:=List.mem_map.1 hu
 rfl
theorem intsW_length (ws:List Nat):(intsW ws).length = ws.length:=by simp [intsW]
theorem takeR_next {L:List ItR} {j:Nat} {x:ItR} (h:L[j]? = some x):L.take (j + 1) = L.take j ++ [x]:=by
 obtain ⟨hk,rfl⟩:=List.getElem?_eq_some_iff.1 h
 rw [List.take_succ_eq_append_getElem hk]
structure GoodR (ws:List Nat) (L:List ItR) (N:Nat):Prop where
 w4:ws.length ≤ 4
 w16:∀ n ∈ ws,1 ≤ n ∧ n ≤ 16
 it:∀ x ∈ L,x.low.size = ws.sum ∧ x.high.size = ws.sum ∧ inK ws x.low x = true
 nd:FineR L
 len:L.length ≤ N
theorem sum_take_le:∀ (ws:List Nat) (i:Nat),(ws.take i).sum ≤ ws.sum
 | [],i => by simp
 | n :: ws,0 => by simp
 | n :: ws,i + 1 => by
   have:=sum_take_le ws i
   simp only [List.take_succ_cons,List.sum_cons]; omega
theorem sum_take_next {ws:List Nat} {i n:Nat} (h:ws[i]? = some n):(ws.take (i + 1)).sum = (ws.take i).sum + n:=by
 obtain ⟨hk,rfl⟩:=List.getElem?_eq_some_iff.1 h
 rw [List.take_succ_eq_append_getElem hk,List.sum_append]; simp
theorem sum_le:∀ (ws:List Nat),(∀ n ∈ ws,1 ≤ n ∧ n ≤ 16) → ws.sum ≤ 16 * ws.length
 | [],_ => by simp
 | n :: ws,h => by
   have:=sum_le ws fun m hm => h m (.tail _ hm)
   have:=(h n (.head _)).2
   simp only [List.sum_cons,List.length_cons]; omega
theorem GoodR.sum {ws:List Nat} {L:List ItR} {N:Nat} (h:GoodR ws L N):ws.sum ≤ 64:=by
 have:=sum_le ws h.w16
 have:=h.w4
 omega
theorem GoodR.but {ws:List Nat} {L:List ItR} {N:Nat} (h:GoodR ws L N) (x:ItR):GoodR ws (butR L x) N :=
 ⟨h.w4,h.w16,fun y hy => h.it y (butR_no hy).1,h.nd.but x,Nat.le_trans (butR_len x) h.len⟩
theorem GoodR.put {ws:List Nat} {L:List ItR} {N:Nat} (h:GoodR ws L N) (x:ItR) (hx:x.low.size = ws.sum ∧ x.high.size = ws.sum ∧ inK ws x.low x = true):GoodR ws (butR L x ++ [x]) (N + 1) :=
 ⟨h.w4,h.w16,fun y hy => by
  rcases List.mem_append.1 hy with hy | hy
  · exact h.it y (butR_no hy).1
  · obtain rfl:y = x:=by simpa using hy
    exact hx,h.nd.put x,by have:=butR_len (L:=L) x; have:=h.len; simp; omega⟩
def FormR (ws:List Nat) (x:ItR):Prop:=x.low.size = ws.sum ∧ x.high.size = ws.sum ∧ inK ws x.low x = true
end Go.Proofs.YtbnpelciceblfaaGreat
namespace Go.Proofs.YtbnpelciceblfaaGreat
set_option linter.unusedVariables false
open Go.ChangeShapes Go.WideShapes Go.ChangeAt Go.RowKit Go.Joins
set_option maxHeartbeats 64000000
theorem infoUR:(Tryz.prog.info? 247).map (fun i => (i.zero,i.size,i.bytes)) = some (some (.agg #[.string ⟨#[]⟩,.string ⟨#[]⟩,.int .i64 0,.int .i64 0]),4,48):=by kernel_rfl
theorem zeroUR:∀ v ∈ (Builtin.zeroCells (Value.cells (.agg #[.string ⟨#[]⟩,.string ⟨#[]⟩,.int .i64 0,.int .i64 0])) 1).toList,v.oneCell' = true:=by
 have e:(Builtin.zeroCells (Value.cells (.agg #[.string ⟨#[]⟩,.string ⟨#[]⟩,.int .i64 0,.int .i64 0])) 1).toList = [.string ⟨#[]⟩,.string ⟨#[]⟩,.int .i64 0,.int .i64 0]:=by kernel_rfl
 rw [e]
 intro v hv
 simp only [List.mem_cons,List.not_mem_nil,or_false] at hv
 rcases hv with rfl | rfl | rfl | rfl <;> rfl
set_option maxRecDepth 20000 in
theorem udelR_1 {V w:World} {R:List Thing} {A:Option Addr} {n c i:Nat} {xs:List Value} (H:Own V w (rowT 247 4 (.slice A n c) n xs :: R)) (h1:∀ u ∈ xs,u.oneCell' = true) (hi:i < n) (hn:n < 1000000) :
 Calls Tryz.prog 193 #[.slice A n c,.int .i64 (i:Int),.int .i64 ((i:Int) + 1)] w fun e w' => e = .returned (.slice A (n - 1) c) ∧ Own V w' (rowT 247 4 (.slice A (n - 1) c) (n - 1) (xs.take (i * 4) ++ xs.drop ((i + 1) * 4)) :: R):=by
 obtain ⟨i0,hi0,hz0,hz1,hz2⟩:=info_parts infoUR
 have hxl:=H.head.1
 obtain ⟨g,cur,rfl,nc,cm,hcl,htk,H1⟩:=H.rowOpen (by omega)
 have hS:Tryz.prog.underlying 135 = some (.slice 247):=Tryz.underlying135
 obtain ⟨m,hm⟩ : ∃ m,n - 1 = m:=⟨_,rfl⟩
 have hnm:n = m + 1:=by omega
 obtain ⟨zs,hzs⟩ : ∃ zs,xs.drop ((i + 1) * 4) = zs:=⟨_,rfl⟩
 have zl:zs.length = (m - i) * 4:=by rw [← hzs,List.length_drop,hxl,← Nat.sub_mul,hnm]; congr 1; omega
 have zone:∀ u ∈ zs,u.oneCell' = true:=fun u hu => h1 u (by rw [← hzs] at hu; exact List.mem_of_mem_drop hu)
 obtain ⟨af,haf,haf2⟩ : ∃ af:Addr,(zs ≠ [] → af = ⟨g,(i + 1) * 4,none⟩) ∧ (if c = i + 1 then (⟨g,0,none⟩ : Addr) else ⟨g,(i + 1) * 4,none⟩) = af:=by
  refine ⟨_,fun hz => ?_,rfl⟩
  rw [if_neg]
  intro q
  have:zs.length = 0:=by rw [zl,show m - i = 0 by omega,Nat.zero_mul]
  exact hz (List.eq_nil_of_length_eq_zero this)
 have zcell:∀ j u,zs[j]? = some u → w.drew.cell? (af.add j) = some u:=fun j u hj => by
  rw [haf (fun e => by rw [e] at hj; simp at hj),Addr.add_lit]
  refine blk_cell H1.head ((i + 1) * 4 + j) ?_
  rw [List.getElem?_toArray]
  have q:=hj
  rw [← hzs,List.getElem?_drop,← htk,List.getElem?_take] at q
  split at q
  · exact q
  · cases q
 have lz:i * 4 + zs.length = m * 4:=by rw [zl,← Nat.add_mul]; congr 1; omega
 have lm:m * 4 + 4 = n * 4:=by rw [hnm,Nat.succ_mul]
 have lc:n * 4 ≤ c * 4:=Nat.mul_le_mul_right _ nc
 have r1:=run_append_room (P:=Tryz.prog) w.drew 135 135 247 i0 hS hi0 g i c cur.toArray H1.head af (m - i) (c - (i + 1)) zs (by rw [hz1]; exact zl) zcell zone (by omega) (by rw [hz1,List.size_toArray,hcl,lz]; omega)
 rw [hz1,lz,List.toList_toArray,show i + (m - i) = m by omega] at r1
 obtain ⟨c1,hc1⟩ : ∃ c1,cur.take (i * 4) ++ zs ++ cur.drop (m * 4) = c1:=⟨_,rfl⟩
 rw [hc1] at r1
 have la:(cur.take (i * 4) ++ zs).length = m * 4:=by rw [List.length_append,List.length_take,hcl]; omega
 have l1:c1.length = c * 4:=by rw [← hc1,List.length_append,la,List.length_drop,hcl]; omega
 have H2:=Own.setRowU (H1.quiet (Wider.refl w).drew) c1.toArray
 obtain ⟨W1,hW1⟩ : ∃ W1,w.drew.setRow g c1.toArray = W1:=⟨_,rfl⟩
 rw [hW1] at r1 H2
 obtain ⟨Z,hZ⟩ : ∃ Z,(Builtin.zeroCells (Value.cells (.agg #[.string ⟨#[]⟩,.string ⟨#[]⟩,.int .i64 0,.int .i64 0])) 1).toList = Z:=⟨_,rfl⟩
 have lZ:Z.length = 4:=by rw [← hZ,Array.length_toList,size_zeroCells]; rfl
 have r2:=run_clear_at (P:=Tryz.prog) W1 135 247 0 (.agg #[.string ⟨#[]⟩,.string ⟨#[]⟩,.int .i64 0,.int .i64 0]) 4 hS (Tryz.zeroValue247 _) rfl zeroUR g (m * 4) (c - m) c1.toArray 247 H2.head (by rw [List.size_toArray,l1]; omega)
 rw [hZ,List.toList_toArray] at r2
 obtain ⟨c2,hc2⟩ : ∃ c2,c1.take (m * 4) ++ Z ++ c1.drop (m * 4 + 4) = c2:=⟨_,rfl⟩
 rw [hc2] at r2
 have H3:=Own.setRowU H2 c2.toArray
 have t1:c1.take (m * 4) = cur.take (i * 4) ++ zs:=by rw [← hc1,← la]; exact List.take_left
 have t2:cur.take (i * 4) = xs.take (i * 4):=by rw [← htk,List.take_take,Nat.min_eq_left (Nat.mul_le_mul_right _ (by omega))]
 have H4:=H3.rowShut (n:=m) (c:=c) (k:=4) (xs:=xs.take (i * 4) ++ xs.drop ((i + 1) * 4)) (by omega) cm (by rw [← hc2,List.length_append,List.length_append,lZ,t1,la,List.length_drop,l1]; omega) (by rw [← hc2,t1,List.append_assoc,hzs,← t2,← la]; exact List.take_left)
 have HF:=Lib.hid H4
 have z1:((i:Int) == (i:Int) + 1) = false:=by rw [beq_eq_false_iff_ne]; omega
 have z2:¬ ((i:Int) = (i:Int) + 1):=by omega
 have i1:(0:Int) ≤ (i:Int) + 1:=by omega
 have i2:((i:Int) + 1).toNat = i + 1:=by omega
 have i3:(i:Int) + 1 ≤ (n:Int):=by omega
 have i4:(i:Int) ≤ (i:Int) + 1:=by omega
 have i5:(n:Int) ≤ (c:Int):=by omega
 have i6:(i:Int) ≤ (n:Int):=by omega
 have i7:¬ (n = i):=by omega
 have i8:(m:Int) ≤ (n:Int):=by omega
 have i9:¬ (c = m):=by omega
 have ia:n - m = 1:=by omega
 have ib:(i:Int) ≤ (c:Int):=by omega
 have ic:n - (i + 1) = m - i:=by omega
 rw [hm]
 clear hxl hcl htk H H1 zl zone haf zcell lz lm lc hc1 la l1 H2 hW1 hZ lZ hc2 H3 t1 t2 H4 hzs h1 hS cm hz0 hz1 hz2 hi0 nc hnm hm
 by_cases q:c = i + 1
 · rw [if_pos q] at haf2
   subst haf2 q
   simp only [Nat.sub_self] at r1
   go_enter Tryz.func193,Tryz.ntmps193
   go_wp2
   go_region_law (refine step_append_u rfl (.tmp 22) (.tmp 25) 135 135 rfl (by simp [Act.eval,Act.put]) (by simp [Act.eval,Act.put]) r1 ?_)
   all_goals
    go_wp2_with (first
     | (at_builtin; refine wpList_clear_u _ rfl (.tmp 31) 135 rfl _ rfl r2 ?_))
    go_ret
    exact ⟨rfl,HF.out⟩
 · rw [if_neg q] at haf2
   subst haf2
   go_enter Tryz.func193,Tryz.ntmps193
   go_wp2
   go_region_law (refine step_append_u rfl (.tmp 22) (.tmp 25) 135 135 rfl (by simp [Act.eval,Act.put]) (by simp [Act.eval,Act.put]) r1 ?_)
   all_goals
    go_wp2_with (first
     | (at_builtin; refine wpList_clear_u _ rfl (.tmp 31) 135 rfl _ rfl r2 ?_))
    go_ret
    exact ⟨rfl,HF.out⟩
end Go.Proofs.YtbnpelciceblfaaGreat
namespace Go.Proofs.YtbnpelciceblfaaGreat
set_option linter.unusedVariables false
set_option maxRecDepth 20000
open Go.ChangeShapes Go.WideShapes Go.ChangeAt Go.RowKit Go.Joins
set_option maxHeartbeats 64000000
theorem step_append_thing {P:Program} {V w:World} {L:List Thing} {ops:Array Oper} {o:Oper} {a:Act} {K:Act → World → Prop} {Q:Exit → Act → World → Prop} {E:Prop} (hgd:o.guard = none) (s x:Operand) (t:TypeId)
 (ho:o.op = Op.call { callee:=Callee.builtin Builtin.append,args:=#[s,x],argTypes:=#[t,t] })
 (e:TypeId) (i:TypeInfo) (z:Value) (size bytes:Nat) (ht:P.underlying t = some (.slice e)) (hi:P.info? e = some i) (hz:i.zero = some z)
 (hsize:i.size = size) (hby:i.bytes = bytes) (hzs:z.cells.size = size) (hsz:0 < size)
 (v:Value) (n:Nat) (xs:List Value) (hs:a.eval s = v) (H:Own V w (rowT e size v n xs :: L))
 (A:Option Addr) (m c:Nat) (news:List Value) (hx:a.eval x = .slice A m c) (hl:news.length = m * size) (h0:A = none → m = 0) (hnews:∀ a,A = some a → ∀ j u,news[j]? = some u → w.cell? (a.add j) = some u) (h1:∀ u ∈ news,u.oneCell' = true)
 (h63:n + m ≤ maxLen) (hbytes:(n + m) * bytes ≤ 140737488355328) {k:Nat} (hk:n + m = k) {ys:List Value} (hys:xs ++ news = ys)
 (h:∀ B c2 w',Own V w' (rowT e size (.slice B k c2) k ys :: L) → K (a.put o.dst (.slice B k c2)) w') :
 if Region.wanted o (yielded ops a.tmps) = true then Oper.wp P o a w K Q else E:=by
 subst hk hys
 have hw:Region.wanted o (yielded ops a.tmps) = true:=by simp [Region.wanted,hgd]
 rw [if_pos hw]
 obtain ⟨v',w',hr,h2,h3⟩:=run_append_any (P:=P) w 0 t o.type e i z size bytes ht hi hz hsize hby hzs hsz v n xs H.head A m c news hl h0 hnews h1 h63 hbytes (Nat.zero_le _)
 have hb:=append_block (P:=P) ht hi hz hsize hby hzs hsz H.head hl h0 hnews h1 h63 hbytes hr
 unfold Oper.wp execOp
 simp only [ho,resolve,invoke,builtin,Sem.run_bind,Sem.run_pure,Result.andThen_ok,List.map_toArray,List.map_cons,List.map_nil,hs,hx,hr]
 obtain ⟨B,c2,rfl⟩:=ownsRow_shape h2
 refine h B c2 w' (H.turn (s:=rowT e size (.slice B (n + m) c2) (n + m) (xs ++ news)) (grownBy_but h3) h2 (rowT_stable _ _ _ _ _) fun j hj => ?_)
 have hj2:(Value.slice B (n + m) c2).ownBlock = some j:=by simpa using hj
 refine ⟨?_,(h2.lt j hj2).2⟩
 rcases hb j hj2 with q | q
 · exact .inl (by simp [q])
 · exact .inr q
end Go.Proofs.YtbnpelciceblfaaGreat
