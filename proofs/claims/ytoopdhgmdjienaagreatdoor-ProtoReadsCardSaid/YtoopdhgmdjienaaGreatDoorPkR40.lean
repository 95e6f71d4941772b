/- PDocC -/
import Derived.Test.YtoopdhgmdjienaaGreatDoorPkR39
namespace Go.Proofs.YtoopdhgmdjienaaGreatDoor
set_option linter.unusedVariables false
set_option maxRecDepth 20000
open Go.ChangeShapes Go.WideShapes Go.ChangeAt Go.RowKit Go.Joins
open Go.ChangeMaps (open_string shut_string)
set_option maxHeartbeats 64000000
theorem with_boxes (w:World) (M:Array Value) (t:Int) (q:ByteArray):∃ W B,((w.alloc (.cells M 51)).alloc (.cells #[.int .u8 t,.string q] 77)).alloc (.cells zM 51) = W ∧ w.heap.size = B ∧ Wider w W ∧ W.heap[B]? = some (.cells M 51 (0,0)) ∧ W.cell? ⟨B + 1,0,none⟩ = some (.int .u8 t) ∧ W.cell? ⟨B + 1,1,none⟩ = some (.string q) ∧ W.heap[B + 1 + 1]? = some (.cells zM 51 (0,0)) ∧ B + 1 + 1 < W.heap.size:=by
 have g3:=(Wider.refl (w.alloc (.cells M 51))).alloc (.cells #[.int .u8 t,.string q] 77)
 have g4:=(Wider.refl ((w.alloc (.cells M 51)).alloc (.cells #[.int .u8 t,.string q] 77))).alloc (.cells zM 51)
 have z1:(w.alloc (.cells M 51)).heap.size = w.heap.size + 1:=by simp
 have z2:((w.alloc (.cells M 51)).alloc (.cells #[.int .u8 t,.string q] 77)).heap.size = w.heap.size + 2:=by simp
 have h0:=wide_blk (heap_alloc_new w (.cells M 51)) (g3.trans g4)
 have h1:=wide_blk (heap_alloc_new (w.alloc (.cells M 51)) (.cells #[.int .u8 t,.string q] 77)) g4
 have h2:=heap_alloc_new ((w.alloc (.cells M 51)).alloc (.cells #[.int .u8 t,.string q] 77)) (.cells zM 51)
 rw [z1] at h1
 rw [z2] at h2
 exact ⟨_,_,rfl,rfl,(((Wider.refl w).alloc _).trans g3).trans g4,h0,blk_cell h1 0 rfl,blk_cell h1 1 rfl,h2,by simp⟩
def WithM (P:World → Prop) (w w':World) (x:Ending) (d:MsgD) (i:Nat) (q:ByteArray):Prop:=∃ M2 d2 b,x = .returned (.tuple #[.agg M2,.bool b]) ∧ Wider w w' ∧ (∀ W,P W → Keeps w.heap.size w' W → RepD W M2 d2) ∧ ((∃ p,(partC 65535 i).dec q = some p ∧ b = true ∧ d2 = d.setN i p) ∨ ((partC 65535 i).dec q = none ∧ b = false))
theorem set_num {P:World → Prop} {w:World} {M:Array Value} {d:MsgD} (hw:P w) (R:∀ W,P W → RepD W M d) (i:Nat) (hi:i < 5):∃ v0,M[i + 2]? = some v0 ∧ ∀ (w2:World) (v:Int),P w2 → 0 ≤ v → v ≤ 9223372036854775807 → RepD w2 (M.setIfInBounds (i + 2) (.int .i64 v)) (d.setN i (.one (.num v))):=by
 match i,hi with
 | 0,_ => exact ⟨_,(R w hw).c2,fun w2 v g a b => (R w2 g).set0 v (wfG64 a b)⟩
 | 1,_ => exact ⟨_,(R w hw).c3,fun w2 v g a b => (R w2 g).set1 v (wfG64 a b)⟩
 | 2,_ => exact ⟨_,(R w hw).c4,fun w2 v g a b => (R w2 g).set2 v (wfG64 a b)⟩
 | 3,_ => exact ⟨_,(R w hw).c5,fun w2 v g a b => (R w2 g).set3 v (wfG64 a b)⟩
 | 4,_ => exact ⟨_,(R w hw).c6,fun w2 v g a b => (R w2 g).set4 v (wfG64 a b)⟩
theorem set_long {P:World → Prop} {w:World} {M:Array Value} {d:MsgD} (hw:P w) (R:∀ W,P W → RepD W M d) (i:Nat) (hi:i = 5 ∨ i = 6):∃ v0,M[i + 2]? = some v0 ∧ ∀ (w2:World) (v:Int),P w2 → 0 ≤ v → v ≤ 18446744073709551615 → RepD w2 (M.setIfInBounds (i + 2) (.int .u64 v)) (d.setN i (.one (.num v))):=by
 rcases hi with rfl | rfl
 · exact ⟨_,(R w hw).c7,fun w2 v g a b => (R w2 g).set5 v (wfGu64 a b)⟩
 · exact ⟨_,(R w hw).c8,fun w2 v g a b => (R w2 g).set6 v (wfGu64 a b)⟩
theorem dec_part {i:Nat} (hi:i < 5):partC 65535 i = oneP nI:=by
 match i,hi with
 | 0,_ | 1,_ | 2,_ | 3,_ | 4,_ => rfl
theorem dec_part2 {i:Nat} (hi:i = 5 ∨ i = 6):partC 65535 i = oneP nU:=by
 rcases hi with rfl | rfl <;> rfl
theorem rwith_num {P:World → Prop} {w:World} {M:Array Value} {d:MsgD} (hP:∀ W,Wider w W → P W) (R:∀ W,P W → RepD W M d) (q:ByteArray) (hq:q.size ≤ 65535) (i:Nat) (hi:i < 5) :
 Calls Tryz.prog 41 #[.agg M,.agg #[.int .u8 ((i + 1:Nat):Int),.string q]] w fun x w' => WithM P w w' x d i q:=by
 obtain ⟨tv,htv⟩ : ∃ tv:Int,((i + 1:Nat):Int) = tv:=⟨_,rfl⟩
 rw [htv]
 obtain ⟨W,B,hW,hB,G,h0,c0,c1,hZ,hz⟩:=with_boxes w M tv q
 obtain ⟨v,r,hr⟩ : ∃ v r,rnumN q.data.toList 2147483647 = (v,r):=⟨_,_,rfl⟩
 have zi:=fun W:World => whole_c W q (by omega) hr
 have hv:=rnum_le hr
 have HD:Hid ((partC 65535 i).dec q = if r = 0 then some (.one (.num (v:Int))) else none):=Lib.hid (by rw [dec_part hi]; exact dec_int hr)
 obtain ⟨v0,e0,hS⟩:=set_num (hP w (Wider.refl w)) R i hi
 have HS:Hid (∀ w2:World,P w2 → RepD w2 (M.setIfInBounds (i + 2) (.int .i64 (v:Int))) (d.setN i (.one (.num (v:Int))))):=Lib.hid fun w2 g => hS w2 (v:Int) g (by omega) (by omega)
 have HQ:Hid (∀ w1:World,w1.heap[B]? = some (.cells M 51 (0,0)) → w1.cell? ⟨B,i + 2,none⟩ = some v0):=Lib.hid fun w1 h => blk_cell h _ e0
 clear hr hS e0 R hv
 obtain zr | ⟨zr,hb⟩ : r = 0 ∨ (r ≠ 0 ∧ ((r:Int) == 0) = false):=by
  by_cases z:r = 0
  · exact .inl z
  · exact .inr ⟨z,by rw [beq_eq_false_iff_ne]; omega⟩
 all_goals
  first | subst zr | simp only [hb] at zi | skip
  obtain ⟨rfl,rfl⟩ | ⟨rfl,rfl⟩ | ⟨rfl,rfl⟩ | ⟨rfl,rfl⟩ | ⟨rfl,rfl⟩ : (i = 0 ∧ tv = 1) ∨ (i = 1 ∧ tv = 2) ∨ (i = 2 ∧ tv = 3) ∨ (i = 3 ∧ tv = 4) ∨ (i = 4 ∧ tv = 5):=by omega
 all_goals
  clear hi htv
  simp only [Nat.reduceAdd] at HS HQ
  go_enter Tryz.func41,Tryz.ntmps41
  go_upto_region 1 with (fail)
  try rw [hW]
  try rw [hB]
  clear hW
  obtain ⟨B2,hB2⟩ : ∃ B2,B + 1 + 1 = B2:=⟨_,rfl⟩
  rw [hB2] at hZ ⊢
  have wB:Hid (w.heap.size ≤ B ∧ w.heap.size ≤ B2 ∧ B2 ≠ B):=Lib.hid (by omega)
  rw [hB2] at hz
  have hzB:=Lib.hid (And.intro hz (show B < W.heap.size by omega))
  clear hB2 hz
  go_upto_region 23 with (first
   | (go_at_call 91; (with_reducible refine (zi _).mono ?_); rintro e w1 ⟨rfl,g1⟩; have h1:=wide_blk h0 g1; have hZ1:=wide_blk hZ g1; have G1:=G.trans g1; have q1:=HQ.out w1 h1; have f1:=fun j => blk_free h1 j; have f2:=f1 2; have f3:=f1 3; have f4:=f1 4; have f5:=f1 5; have f6:=f1 6; have f7:=f1 7; have f8:=f1 8; clear f1)
   | (with_reducible refine wpList_field rfl 51 _ _ rfl B 0 _ rfl (by first | exact fieldM2 _ | exact fieldM3 _ | exact fieldM4 _ | exact fieldM5 _ | exact fieldM6 _ | exact fieldM7 _ | exact fieldM8 _ | exact fieldM9 _ | exact fieldM10 _) ?_))
  clear q1 f2 f3 f4 f5 f6 f7 f8 c0 c1 HQ zi
  first
   | (have HS':Hid (∀ w2:World,P w2 → RepD w2 (M.setIfInBounds 2 (.int .i64 (v:Int))) (d.setN 0 (.one (.num (v:Int))))):=HS
      clear HS; have HS:=HS'; clear HS'
      have h2:=set_blk (j:=2) (.int .i64 (v:Int)) h1
      have g2:=setCell_but w1 ⟨B,2,none⟩ (.int .i64 (v:Int))
      have hZ2:=but_blk hZ1 g2 wB.out.2.2
      have G2:=g2.wider G1 (by intro i m; obtain rfl:=List.mem_singleton.1 m; exact wB.out.1)
      obtain ⟨M2,hM2⟩ : ∃ M2,M.setIfInBounds (2) (.int .i64 (v:Int)) = M2:=⟨_,rfl⟩
      have R2:=HS.out
      obtain ⟨w2,hw2⟩ : ∃ w2,w1.setCell ⟨B,2,none⟩ (.int .i64 (v:Int)) = w2:=⟨_,rfl⟩
      rw [hM2] at R2 h2
      rw [hw2] at h2 g2 hZ2 G2 ⊢
      have s2:=(R2 w2 (hP _ G2)).size
      have o2:=(R2 w2 (hP _ G2)).one
      replace R2:=Lib.hid R2
      clear hM2 hw2 h1 hZ1 g2
      go_wp2_with (first
       | (with_reducible refine wpList_load_row rfl 51 _ rfl B rfl 51 M2 (0,0) _ h2 Tryz.underlying51 rfl (by rw [s2]; kernel_rfl) ?_)
       | (with_reducible refine wpList_store_row rfl 51 _ _ rfl B2 M2 rfl rfl 51 zM hZ2 (by rw [s2]; kernel_rfl) (by rw [s2]; exact zM_size) o2 ?_))
      obtain ⟨g6,h6⟩:=setRow_facts M2 hZ2
      have G6:=g6.wider G2 (by intro i m; obtain rfl:=List.mem_singleton.1 m; exact wB.out.2.1)
      have hl:=run_loadVar_row (P:=Tryz.prog) _ B2 51 51 _ (0,0) _ h6 Tryz.underlying51 rfl (by rw [s2]; kernel_rfl)
      have R6:=fun W' (gv:P W') (kp:Keeps w.heap.size (World.setRow w2 B2 M2) W') => R2.out W' gv
      clear R2
      simp [bodyPost,results,Tryz.results41,asAddr,hl]
      refine ⟨_,_,_,rfl,G6,R6,?_⟩
      first | exact .inl ⟨_,by rw [HD.out]; rfl,by first | rfl | simp,rfl⟩ | exact .inr ⟨by rw [HD.out,if_neg zr],by first | rfl | simp⟩)
   | (have HS':Hid (∀ w2:World,P w2 → RepD w2 (M.setIfInBounds 3 (.int .i64 (v:Int))) (d.setN 1 (.one (.num (v:Int))))):=HS
      clear HS; have HS:=HS'; clear HS'
      have h2:=set_blk (j:=3) (.int .i64 (v:Int)) h1
      have g2:=setCell_but w1 ⟨B,3,none⟩ (.int .i64 (v:Int))
      have hZ2:=but_blk hZ1 g2 wB.out.2.2
      have G2:=g2.wider G1 (by intro i m; obtain rfl:=List.mem_singleton.1 m; exact wB.out.1)
      obtain ⟨M2,hM2⟩ : ∃ M2,M.setIfInBounds (3) (.int .i64 (v:Int)) = M2:=⟨_,rfl⟩
      have R2:=HS.out
      obtain ⟨w2,hw2⟩ : ∃ w2,w1.setCell ⟨B,3,none⟩ (.int .i64 (v:Int)) = w2:=⟨_,rfl⟩
      rw [hM2] at R2 h2
      rw [hw2] at h2 g2 hZ2 G2 ⊢
      have s2:=(R2 w2 (hP _ G2)).size
      have o2:=(R2 w2 (hP _ G2)).one
      replace R2:=Lib.hid R2
      clear hM2 hw2 h1 hZ1 g2
      go_wp2_with (first
       | (with_reducible refine wpList_load_row rfl 51 _ rfl B rfl 51 M2 (0,0) _ h2 Tryz.underlying51 rfl (by rw [s2]; kernel_rfl) ?_)
       | (with_reducible refine wpList_store_row rfl 51 _ _ rfl B2 M2 rfl rfl 51 zM hZ2 (by rw [s2]; kernel_rfl) (by rw [s2]; exact zM_size) o2 ?_))
      obtain ⟨g6,h6⟩:=setRow_facts M2 hZ2
      have G6:=g6.wider G2 (by intro i m; obtain rfl:=List.mem_singleton.1 m; exact wB.out.2.1)
      have hl:=run_loadVar_row (P:=Tryz.prog) _ B2 51 51 _ (0,0) _ h6 Tryz.underlying51 rfl (by rw [s2]; kernel_rfl)
      have R6:=fun W' (gv:P W') (kp:Keeps w.heap.size (World.setRow w2 B2 M2) W') => R2.out W' gv
      clear R2
      simp [bodyPost,results,Tryz.results41,asAddr,hl]
      refine ⟨_,_,_,rfl,G6,R6,?_⟩
      first | exact .inl ⟨_,by rw [HD.out]; rfl,by first | rfl | simp,rfl⟩ | exact .inr ⟨by rw [HD.out,if_neg zr],by first | rfl | simp⟩)
   | (have HS':Hid (∀ w2:World,P w2 → RepD w2 (M.setIfInBounds 4 (.int .i64 (v:Int))) (d.setN 2 (.one (.num (v:Int))))):=HS
      clear HS; have HS:=HS'; clear HS'
      have h2:=set_blk (j:=4) (.int .i64 (v:Int)) h1
      have g2:=setCell_but w1 ⟨B,4,none⟩ (.int .i64 (v:Int))
      have hZ2:=but_blk hZ1 g2 wB.out.2.2
      have G2:=g2.wider G1 (by intro i m; obtain rfl:=List.mem_singleton.1 m; exact wB.out.1)
      obtain ⟨M2,hM2⟩ : ∃ M2,M.setIfInBounds (4) (.int .i64 (v:Int)) = M2:=⟨_,rfl⟩
      have R2:=HS.out
      obtain ⟨w2,hw2⟩ : ∃ w2,w1.setCell ⟨B,4,none⟩ (.int .i64 (v:Int)) = w2:=⟨_,rfl⟩
      rw [hM2] at R2 h2
      rw [hw2] at h2 g2 hZ2 G2 ⊢
      have s2:=(R2 w2 (hP _ G2)).size
      have o2:=(R2 w2 (hP _ G2)).one
      replace R2:=Lib.hid R2
      clear hM2 hw2 h1 hZ1 g2
      go_wp2_with (first
       | (with_reducible refine wpList_load_row rfl 51 _ rfl B rfl 51 M2 (0,0) _ h2 Tryz.underlying51 rfl (by rw [s2]; kernel_rfl) ?_)
       | (with_reducible refine wpList_store_row rfl 51 _ _ rfl B2 M2 rfl rfl 51 zM hZ2 (by rw [s2]; kernel_rfl) (by rw [s2]; exact zM_size) o2 ?_))
      obtain ⟨g6,h6⟩:=setRow_facts M2 hZ2
      have G6:=g6.wider G2 (by intro i m; obtain rfl:=List.mem_singleton.1 m; exact wB.out.2.1)
      have hl:=run_loadVar_row (P:=Tryz.prog) _ B2 51 51 _ (0,0) _ h6 Tryz.underlying51 rfl (by rw [s2]; kernel_rfl)
      have R6:=fun W' (gv:P W') (kp:Keeps w.heap.size (World.setRow w2 B2 M2) W') => R2.out W' gv
      clear R2
      simp [bodyPost,results,Tryz.results41,asAddr,hl]
      refine ⟨_,_,_,rfl,G6,R6,?_⟩
      first | exact .inl ⟨_,by rw [HD.out]; rfl,by first | rfl | simp,rfl⟩ | exact .inr ⟨by rw [HD.out,if_neg zr],by first | rfl | simp⟩)
   | (have HS':Hid (∀ w2:World,P w2 → RepD w2 (M.setIfInBounds 5 (.int .i64 (v:Int))) (d.setN 3 (.one (.num (v:Int))))):=HS
      clear HS; have HS:=HS'; clear HS'
      have h2:=set_blk (j:=5) (.int .i64 (v:Int)) h1
      have g2:=setCell_but w1 ⟨B,5,none⟩ (.int .i64 (v:Int))
      have hZ2:=but_blk hZ1 g2 wB.out.2.2
      have G2:=g2.wider G1 (by intro i m; obtain rfl:=List.mem_singleton.1 m; exact wB.out.1)
      obtain ⟨M2,hM2⟩ : ∃ M2,M.setIfInBounds (5) (.int .i64 (v:Int)) = M2:=⟨_,rfl⟩
      have R2:=HS.out
      obtain ⟨w2,hw2⟩ : ∃ w2,w1.setCell ⟨B,5,none⟩ (.int .i64 (v:Int)) = w2:=⟨_,rfl⟩
      rw [hM2] at R2 h2
      rw [hw2] at h2 g2 hZ2 G2 ⊢
      have s2:=(R2 w2 (hP _ G2)).size
      have o2:=(R2 w2 (hP _ G2)).one
      replace R2:=Lib.hid R2
      clear hM2 hw2 h1 hZ1 g2
      go_wp2_with (first
       | (with_reducible refine wpList_load_row rfl 51 _ rfl B rfl 51 M2 (0,0) _ h2 Tryz.underlying51 rfl (by rw [s2]; kernel_rfl) ?_)
       | (with_reducible refine wpList_store_row rfl 51 _ _ rfl B2 M2 rfl rfl 51 zM hZ2 (by rw [s2]; kernel_rfl) (by rw [s2]; exact zM_size) o2 ?_))
      obtain ⟨g6,h6⟩:=setRow_facts M2 hZ2
      have G6:=g6.wider G2 (by intro i m; obtain rfl:=List.mem_singleton.1 m; exact wB.out.2.1)
      have hl:=run_loadVar_row (P:=Tryz.prog) _ B2 51 51 _ (0,0) _ h6 Tryz.underlying51 rfl (by rw [s2]; kernel_rfl)
      have R6:=fun W' (gv:P W') (kp:Keeps w.heap.size (World.setRow w2 B2 M2) W') => R2.out W' gv
      clear R2
      simp [bodyPost,results,Tryz.results41,asAddr,hl]
      refine ⟨_,_,_,rfl,G6,R6,?_⟩
      first | exact .inl ⟨_,by rw [HD.out]; rfl,by first | rfl | simp,rfl⟩ | exact .inr ⟨by rw [HD.out,if_neg zr],by first | rfl | simp⟩)
   | (have HS':Hid (∀ w2:World,P w2 → RepD w2 (M.setIfInBounds 6 (.int .i64 (v:Int))) (d.setN 4 (.one (.num (v:Int))))):=HS
      clear HS; have HS:=HS'; clear HS'
      have h2:=set_blk (j:=6) (.int .i64 (v:Int)) h1
      have g2:=setCell_but w1 ⟨B,6,none⟩ (.int .i64 (v:Int))
      have hZ2:=but_blk hZ1 g2 wB.out.2.2
      have G2:=g2.wider G1 (by intro i m; obtain rfl:=List.mem_singleton.1 m; exact wB.out.1)
      obtain ⟨M2,hM2⟩ : ∃ M2,M.setIfInBounds (6) (.int .i64 (v:Int)) = M2:=⟨_,rfl⟩
      have R2:=HS.out
      obtain ⟨w2,hw2⟩ : ∃ w2,w1.setCell ⟨B,6,none⟩ (.int .i64 (v:Int)) = w2:=⟨_,rfl⟩
      rw [hM2] at R2 h2
      rw [hw2] at h2 g2 hZ2 G2 ⊢
      have s2:=(R2 w2 (hP _ G2)).size
      have o2:=(R2 w2 (hP _ G2)).one
      replace R2:=Lib.hid R2
      clear hM2 hw2 h1 hZ1 g2
      go_wp2_with (first
       | (with_reducible refine wpList_load_row rfl 51 _ rfl B rfl 51 M2 (0,0) _ h2 Tryz.underlying51 rfl (by rw [s2]; kernel_rfl) ?_)
       | (with_reducible refine wpList_store_row rfl 51 _ _ rfl B2 M2 rfl rfl 51 zM hZ2 (by rw [s2]; kernel_rfl) (by rw [s2]; exact zM_size) o2 ?_))
      obtain ⟨g6,h6⟩:=setRow_facts M2 hZ2
      have G6:=g6.wider G2 (by intro i m; obtain rfl:=List.mem_singleton.1 m; exact wB.out.2.1)
      have hl:=run_loadVar_row (P:=Tryz.prog) _ B2 51 51 _ (0,0) _ h6 Tryz.underlying51 rfl (by rw [s2]; kernel_rfl)
      have R6:=fun W' (gv:P W') (kp:Keeps w.heap.size (World.setRow w2 B2 M2) W') => R2.out W' gv
      clear R2
      simp [bodyPost,results,Tryz.results41,asAddr,hl]
      refine ⟨_,_,_,rfl,G6,R6,?_⟩
      first | exact .inl ⟨_,by rw [HD.out]; rfl,by first | rfl | simp,rfl⟩ | exact .inr ⟨by rw [HD.out,if_neg zr],by first | rfl | simp⟩)
theorem rwith_long {P:World → Prop} {w:World} {M:Array Value} {d:MsgD} (hP:∀ W,Wider w W → P W) (R:∀ W,P W → RepD W M d) (q:ByteArray) (hq:q.size ≤ 65535) (i:Nat) (hi:i = 5 ∨ i = 6) :
 Calls Tryz.prog 41 #[.agg M,.agg #[.int .u8 ((i + 1:Nat):Int),.string q]] w fun x w' => WithM P w w' x d i q:=by
 obtain ⟨tv,htv⟩ : ∃ tv:Int,((i + 1:Nat):Int) = tv:=⟨_,rfl⟩
 rw [htv]
 obtain ⟨W,B,hW,hB,G,h0,c0,c1,hZ,hz⟩:=with_boxes w M tv q
 obtain ⟨v,r,hr⟩ : ∃ v r,rnumN q.data.toList 18446744073709551615 = (v,r):=⟨_,_,rfl⟩
 have zi:=fun W:World => rlong_c W q (by omega) hr
 have hv:=rnum_le hr
 have HD:Hid ((partC 65535 i).dec q = if r = 0 then some (.one (.num (v:Int))) else none):=Lib.hid (by rw [dec_part2 hi]; exact dec_long hr)
 obtain ⟨v0,e0,hS⟩:=set_long (hP w (Wider.refl w)) R i hi
 have HS:Hid (∀ w2:World,P w2 → RepD w2 (M.setIfInBounds (i + 2) (.int .u64 (v:Int))) (d.setN i (.one (.num (v:Int))))):=Lib.hid fun w2 g => hS w2 (v:Int) g (by omega) (by omega)
 have HQ:Hid (∀ w1:World,w1.heap[B]? = some (.cells M 51 (0,0)) → w1.cell? ⟨B,i + 2,none⟩ = some v0):=Lib.hid fun w1 h => blk_cell h _ e0
 clear hr hS e0 R hv
 obtain zr | ⟨zr,hb⟩ : r = 0 ∨ (r ≠ 0 ∧ ((r:Int) == 0) = false):=by
  by_cases z:r = 0
  · exact .inl z
  · exact .inr ⟨z,by rw [beq_eq_false_iff_ne]; omega⟩
 all_goals
  first | subst zr | simp only [hb] at zi | skip
  obtain ⟨rfl,rfl⟩ | ⟨rfl,rfl⟩ : (i = 5 ∧ tv = 6) ∨ (i = 6 ∧ tv = 7):=by omega
 all_goals
  clear hi htv
  simp only [Nat.reduceAdd] at HS HQ
  go_enter Tryz.func41,Tryz.ntmps41
  go_upto_region 1 with (fail)
  try rw [hW]
  try rw [hB]
  clear hW
  obtain ⟨B2,hB2⟩ : ∃ B2,B + 1 + 1 = B2:=⟨_,rfl⟩
  rw [hB2] at hZ ⊢
  have wB:Hid (w.heap.size ≤ B ∧ w.heap.size ≤ B2 ∧ B2 ≠ B):=Lib.hid (by omega)
  rw [hB2] at hz
  have hzB:=Lib.hid (And.intro hz (show B < W.heap.size by omega))
  clear hB2 hz
  go_upto_region 23 with (first
   | (go_at_call 92; (with_reducible refine (zi _).mono ?_); rintro e w1 ⟨rfl,g1⟩; have h1:=wide_blk h0 g1; have hZ1:=wide_blk hZ g1; have G1:=G.trans g1; have q1:=HQ.out w1 h1; have f1:=fun j => blk_free h1 j; have f2:=f1 2; have f3:=f1 3; have f4:=f1 4; have f5:=f1 5; have f6:=f1 6; have f7:=f1 7; have f8:=f1 8; clear f1)
   | (with_reducible refine wpList_field rfl 51 _ _ rfl B 0 _ rfl (by first | exact fieldM2 _ | exact fieldM3 _ | exact fieldM4 _ | exact fieldM5 _ | exact fieldM6 _ | exact fieldM7 _ | exact fieldM8 _ | exact fieldM9 _ | exact fieldM10 _) ?_))
  clear q1 f2 f3 f4 f5 f6 f7 f8 c0 c1 HQ zi
  first
   | (have HS':Hid (∀ w2:World,P w2 → RepD w2 (M.setIfInBounds 7 (.int .u64 (v:Int))) (d.setN 5 (.one (.num (v:Int))))):=HS
      clear HS; have HS:=HS'; clear HS'
      have h2:=set_blk (j:=7) (.int .u64 (v:Int)) h1
      have g2:=setCell_but w1 ⟨B,7,none⟩ (.int .u64 (v:Int))
      have hZ2:=but_blk hZ1 g2 wB.out.2.2
      have G2:=g2.wider G1 (by intro i m; obtain rfl:=List.mem_singleton.1 m; exact wB.out.1)
      obtain ⟨M2,hM2⟩ : ∃ M2,M.setIfInBounds (7) (.int .u64 (v:Int)) = M2:=⟨_,rfl⟩
      have R2:=HS.out
      obtain ⟨w2,hw2⟩ : ∃ w2,w1.setCell ⟨B,7,none⟩ (.int .u64 (v:Int)) = w2:=⟨_,rfl⟩
      rw [hM2] at R2 h2
      rw [hw2] at h2 g2 hZ2 G2 ⊢
      have s2:=(R2 w2 (hP _ G2)).size
      have o2:=(R2 w2 (hP _ G2)).one
      replace R2:=Lib.hid R2
      clear hM2 hw2 h1 hZ1 g2
      go_wp2_with (first
       | (with_reducible refine wpList_load_row rfl 51 _ rfl B rfl 51 M2 (0,0) _ h2 Tryz.underlying51 rfl (by rw [s2]; kernel_rfl) ?_)
       | (with_reducible refine wpList_store_row rfl 51 _ _ rfl B2 M2 rfl rfl 51 zM hZ2 (by rw [s2]; kernel_rfl) (by rw [s2]; exact zM_size) o2 ?_))
      obtain ⟨g6,h6⟩:=setRow_facts M2 hZ2
      have G6:=g6.wider G2 (by intro i m; obtain rfl:=List.mem_singleton.1 m; exact wB.out.2.1)
      have hl:=run_loadVar_row (P:=Tryz.prog) _ B2 51 51 _ (0,0) _ h6 Tryz.underlying51 rfl (by rw [s2]; kernel_rfl)
      have R6:=fun W' (gv:P W') (kp:Keeps w.heap.size (World.setRow w2 B2 M2) W') => R2.out W' gv
      clear R2
      simp [bodyPost,results,Tryz.results41,asAddr,hl]
      refine ⟨_,_,_,rfl,G6,R6,?_⟩
      first | exact .inl ⟨_,by rw [HD.out]; rfl,by first | rfl | simp,rfl⟩ | exact .inr ⟨by rw [HD.out,if_neg zr],by first | rfl | simp⟩)
   | (have HS':Hid (∀ w2:World,P w2 → RepD w2 (M.setIfInBounds 8 (.int .u64 (v:Int))) (d.setN 6 (.one (.num (v:Int))))):=HS
      clear HS; have HS:=HS'; clear HS'
      have h2:=set_blk (j:=8) (.int .u64 (v:Int)) h1
      have g2:=setCell_but w1 ⟨B,8,none⟩ (.int .u64 (v:Int))
      have hZ2:=but_blk hZ1 g2 wB.out.2.2
      have G2:=g2.wider G1 (by intro i m; obtain rfl:=List.mem_singleton.1 m; exact wB.out.1)
      obtain ⟨M2,hM2⟩ : ∃ M2,M.setIfInBounds (8) (.int .u64 (v:Int)) = M2:=⟨_,rfl⟩
      have R2:=HS.out
      obtain ⟨w2,hw2⟩ : ∃ w2,w1.setCell ⟨B,8,none⟩ (.int .u64 (v:Int)) = w2:=⟨_,rfl⟩
      rw [hM2] at R2 h2
      rw [hw2] at h2 g2 hZ2 G2 ⊢
      have s2:=(R2 w2 (hP _ G2)).size
      have o2:=(R2 w2 (hP _ G2)).one
      replace R2:=Lib.hid R2
      clear hM2 hw2 h1 hZ1 g2
      go_wp2_with (first
       | (with_reducible refine wpList_load_row rfl 51 _ rfl B rfl 51 M2 (0,0) _ h2 Tryz.underlying51 rfl (by rw [s2]; kernel_rfl) ?_)
       | (with_reducible refine wpList_store_row rfl 51 _ _ rfl B2 M2 rfl rfl 51 zM hZ2 (by rw [s2]; kernel_rfl) (by rw [s2]; exact zM_size) o2 ?_))
      obtain ⟨g6,h6⟩:=setRow_facts M2 hZ2
      have G6:=g6.wider G2 (by intro i m; obtain rfl:=List.mem_singleton.1 m; exact wB.out.2.1)
      have hl:=run_loadVar_row (P:=Tryz.prog) _ B2 51 51 _ (0,0) _ h6 Tryz.underlying51 rfl (by rw [s2]; kernel_rfl)
      have R6:=fun W' (gv:P W') (kp:Keeps w.heap.size (World.setRow w2 B2 M2) W') => R2.out W' gv
      clear R2
      simp [bodyPost,results,Tryz.results41,asAddr,hl]
      refine ⟨_,_,_,rfl,G6,R6,?_⟩
      first | exact .inl ⟨_,by rw [HD.out]; rfl,by first | rfl | simp,rfl⟩ | exact .inr ⟨by rw [HD.out,if_neg zr],by first | rfl | simp⟩)
theorem rwith_text {P:World → Prop} {w:World} {M:Array Value} {d:MsgD} (hP:∀ W,Wider w W → P W) (R:∀ W,P W → RepD W M d) (q:ByteArray) (hq:q.size ≤ 65535) :
 Calls Tryz.prog 41 #[.agg M,.agg #[.int .u8 8,.string q]] w fun x w' => WithM P w w' x d 7 q:=by
 obtain ⟨w1,B,hW,hB,G,h0,c0,c1,hZ,hz⟩:=with_boxes w M 8 q
 have HS:Hid (∀ w2:World,P w2 → RepD w2 (M.setIfInBounds 9 (.string q)) (d.setN 7 (.one (.txt q)))):=Lib.hid fun w2 g => (R w2 g).set7 q (by unfold maxLen; omega)
 have q1:=blk_cell h0 9 (R w (hP w (Wider.refl w))).c9
 have f1:=blk_free h0 9
 have HQ:=Lib.hid hq
 clear R hq
 go_enter Tryz.func41,Tryz.ntmps41
 go_upto_region 1 with (fail)
 try rw [hW]
 try rw [hB]
 clear hW
 obtain ⟨B2,hB2⟩ : ∃ B2,B + 1 + 1 = B2:=⟨_,rfl⟩
 rw [hB2] at hZ ⊢
 have wB:Hid (w.heap.size ≤ B ∧ w.heap.size ≤ B2 ∧ B2 ≠ B):=Lib.hid (by omega)
 rw [hB2] at hz
 have hzB:=Lib.hid (And.intro hz (show B < w1.heap.size by omega))
 clear hB2 hz
 go_upto_region 23 with (first
  | (with_reducible refine wpList_field rfl 51 _ _ rfl B 0 _ rfl (by first | exact fieldM2 _ | exact fieldM3 _ | exact fieldM4 _ | exact fieldM5 _ | exact fieldM6 _ | exact fieldM7 _ | exact fieldM8 _ | exact fieldM9 _ | exact fieldM10 _) ?_))
 have h1:=h0
 have hZ1:=hZ
 have G1:=G
 clear q1 f1 c0 c1 h0 hZ
 have h2:=set_blk (j:=9) (.string q) h1
 have g2:=setCell_but w1 ⟨B,9,none⟩ (.string q)
 have hZ2:=but_blk hZ1 g2 wB.out.2.2
 have G2:=g2.wider G1 (by intro i m; obtain rfl:=List.mem_singleton.1 m; exact wB.out.1)
 obtain ⟨M2,hM2⟩ : ∃ M2,M.setIfInBounds (9) (.string q) = M2:=⟨_,rfl⟩
 have R2:=HS.out
 obtain ⟨w2,hw2⟩ : ∃ w2,w1.setCell ⟨B,9,none⟩ (.string q) = w2:=⟨_,rfl⟩
 rw [hM2] at R2 h2
 rw [hw2] at h2 g2 hZ2 G2 ⊢
 have s2:=(R2 w2 (hP _ G2)).size
 have o2:=(R2 w2 (hP _ G2)).one
 replace R2:=Lib.hid R2
 clear hM2 hw2 h1 hZ1 g2
 go_wp2_with (first
  | (with_reducible refine wpList_load_row rfl 51 _ rfl B rfl 51 M2 (0,0) _ h2 Tryz.underlying51 rfl (by rw [s2]; kernel_rfl) ?_)
  | (with_reducible refine wpList_store_row rfl 51 _ _ rfl B2 M2 rfl rfl 51 zM hZ2 (by rw [s2]; kernel_rfl) (by rw [s2]; exact zM_size) o2 ?_))
 obtain ⟨g6,h6⟩:=setRow_facts M2 hZ2
 have G6:=g6.wider G2 (by intro i m; obtain rfl:=List.mem_singleton.1 m; exact wB.out.2.1)
 have hl:=run_loadVar_row (P:=Tryz.prog) _ B2 51 51 _ (0,0) _ h6 Tryz.underlying51 rfl (by rw [s2]; kernel_rfl)
 have R6:=fun W' (gv:P W') (kp:Keeps w.heap.size (World.setRow w2 B2 M2) W') => R2.out W' gv
 clear R2
 simp [bodyPost,results,Tryz.results41,asAddr,hl]
 refine ⟨_,_,_,rfl,G6,R6,.inl ⟨_,?_,rfl,rfl⟩⟩
 show ((if q.size ≤ 65535 then some (ValN.txt q) else none:Option ValN).map PartN.one) = _
 rw [if_pos HQ.out]; rfl
theorem rwith_words {P:World → Prop} {w:World} {M:Array Value} {d:MsgD} (hP:∀ W,Wider w W → P W) (R:∀ W,P W → RepD W M d) (q:ByteArray) (hq:q.size ≤ 65535) :
 Calls Tryz.prog 41 #[.agg M,.agg #[.int .u8 9,.string q]] w fun x w' => WithM P w w' x d 8 q:=by
 obtain ⟨W,B,hW,hB,G,h0,c0,c1,hZ,hz⟩:=with_boxes w M 9 q
 have zw:=rwords_c q W (by omega)
 obtain ⟨v0,A0,n0,p0,e0,r0⟩:=(R w (hP w (Wider.refl w))).c10
 have HQ:Hid (∀ w1:World,w1.heap[B]? = some (.cells M 51 (0,0)) → w1.cell? ⟨B,10,none⟩ = some v0):=Lib.hid fun w1 h => blk_cell h _ e0
 have RR:=Lib.hid R
 clear R e0 r0 hq
 go_enter Tryz.func41,Tryz.ntmps41
 go_upto_region 1 with (fail)
 try rw [hW]
 try rw [hB]
 clear hW
 obtain ⟨B2,hB2⟩ : ∃ B2,B + 1 + 1 = B2:=⟨_,rfl⟩
 rw [hB2] at hZ ⊢
 have wB:Hid (w.heap.size ≤ B ∧ w.heap.size ≤ B2 ∧ B2 ≠ B):=Lib.hid (by omega)
 rw [hB2] at hz
 have hzB:=Lib.hid (And.intro hz (show B < W.heap.size by omega))
 clear hB2 hz
 go_upto_region 23 with (first
  | (go_at_call 93; (with_reducible refine zw.mono ?_); rintro e w1 ⟨v,b,rfl,g1,hw⟩; obtain ⟨L,A9,n9,p9,rfl,hrow,hdec⟩:=hw.row; clear hw; have HROW:=Lib.hid hrow; have HDEC:=Lib.hid hdec; clear hrow hdec; have h1:=wide_blk h0 g1; have hZ1:=wide_blk hZ g1; have G1:=G.trans g1; have q1:=HQ.out w1 h1; have f1:=blk_free h1 10)
  | (with_reducible refine wpList_field rfl 51 _ _ rfl B 0 _ rfl (by first | exact fieldM2 _ | exact fieldM3 _ | exact fieldM4 _ | exact fieldM5 _ | exact fieldM6 _ | exact fieldM7 _ | exact fieldM8 _ | exact fieldM9 _ | exact fieldM10 _) ?_))
 cases b
 all_goals
  clear q1 f1 c0 c1 HQ zw h0 hZ
  have HS:Hid (∀ w2:World,P w2 → Keeps W.heap.size w1 w2 → RepD w2 (M.setIfInBounds 10 (.slice A9 n9 p9)) (d.setN 8 (.one (.lst L)))):=Lib.hid fun w2 g k => (RR.out w2 g).set8 (HROW.out w2 k)
  have h2:=set_blk (j:=10) (.slice A9 n9 p9) h1
  have g2:=setCell_but w1 ⟨B,10,none⟩ (.slice A9 n9 p9)
  have hZ2:=but_blk hZ1 g2 wB.out.2.2
  have G2:=g2.wider G1 (by intro i m; obtain rfl:=List.mem_singleton.1 m; exact wB.out.1)
  obtain ⟨M2,hM2⟩ : ∃ M2,M.setIfInBounds (10) (.slice A9 n9 p9) = M2:=⟨_,rfl⟩
  have R2:=HS.out
  obtain ⟨w2,hw2⟩ : ∃ w2,w1.setCell ⟨B,10,none⟩ (.slice A9 n9 p9) = w2:=⟨_,rfl⟩
  rw [hM2] at R2 h2
  rw [hw2] at h2 g2 hZ2 G2 ⊢
  have K2:Keeps W.heap.size w1 w2:=g2.keeps hzB.out.2
  have s2:=(R2 w2 (hP _ G2) K2).size
  have o2:=(R2 w2 (hP _ G2) K2).one
  replace R2:=Lib.hid R2
  clear hM2 hw2 h1 hZ1 g2
  go_wp2_with (first
   | (with_reducible refine wpList_load_row rfl 51 _ rfl B rfl 51 M2 (0,0) _ h2 Tryz.underlying51 rfl (by rw [s2]; kernel_rfl) ?_)
   | (with_reducible refine wpList_store_row rfl 51 _ _ rfl B2 M2 rfl rfl 51 zM hZ2 (by rw [s2]; kernel_rfl) (by rw [s2]; exact zM_size) o2 ?_))
  obtain ⟨g6,h6⟩:=setRow_facts M2 hZ2
  have G6:=g6.wider G2 (by intro i m; obtain rfl:=List.mem_singleton.1 m; exact wB.out.2.1)
  have hl:=run_loadVar_row (P:=Tryz.prog) _ B2 51 51 _ (0,0) _ h6 Tryz.underlying51 rfl (by rw [s2]; kernel_rfl)
  have R6:=fun W' (gv:P W') (kp:Keeps w.heap.size (World.setRow w2 B2 M2) W') => R2.out W' gv (K2.trans ((g6.keeps hzB.out.1).trans (Keeps.less kp G.2)))
  clear R2
  simp [bodyPost,results,Tryz.results41,asAddr,hl]
  refine ⟨_,_,_,rfl,G6,R6,?_⟩
  rcases HDEC.out with ⟨e1,e2⟩ | ⟨e1,e2⟩
  · first | (cases e2; done) | exact .inl ⟨_,by show (lWords.dec q).map PartN.one = _; rw [e1]; rfl,by first | rfl | simp,rfl⟩
  · first | (cases e2; done) | exact .inr ⟨by show (lWords.dec q).map PartN.one = _; rw [e1]; rfl,by first | rfl | simp⟩
theorem rwith_obj {P:World → Prop} {w:World} {M:Array Value} {d:MsgD} (hP:∀ W,Wider w W → P W) (R:∀ W,P W → RepD W M d) (q:ByteArray) (t k:Nat) (ht:t = 0 ∨ 10 ≤ t) (zo:∀ W,Wider w W → Calls Tryz.prog 94 #[.agg M,.int .u8 (t:Int),.string q] W fun x w' => ObjM P W w' x d k q) :
 Calls Tryz.prog 41 #[.agg M,.agg #[.int .u8 (t:Int),.string q]] w fun x w' => WithM P w w' x d (k + 9) q:=by
 have k1:((t:Int) == 1) = false:=by rw [beq_eq_false_iff_ne]; omega
 have k2:((t:Int) == 2) = false:=by rw [beq_eq_false_iff_ne]; omega
 have k3:((t:Int) == 3) = false:=by rw [beq_eq_false_iff_ne]; omega
 have k4:((t:Int) == 4) = false:=by rw [beq_eq_false_iff_ne]; omega
 have k5:((t:Int) == 5) = false:=by rw [beq_eq_false_iff_ne]; omega
 have k6:((t:Int) == 6) = false:=by rw [beq_eq_false_iff_ne]; omega
 have k7:((t:Int) == 7) = false:=by rw [beq_eq_false_iff_ne]; omega
 have k8:((t:Int) == 8) = false:=by rw [beq_eq_false_iff_ne]; omega
 have k9:((t:Int) == 9) = false:=by rw [beq_eq_false_iff_ne]; omega
 obtain ⟨W,B,hW,hB,G,h0,c0,c1,hZ,hz⟩:=with_boxes w M (t:Int) q
 have sM:=(R w (hP w (Wider.refl w))).size
 replace zo:=zo W G
 clear R
 go_enter Tryz.func41,Tryz.ntmps41
 go_upto_region 1 with (fail)
 try rw [hW]
 try rw [hB]
 clear hW
 obtain ⟨B2,hB2⟩ : ∃ B2,B + 1 + 1 = B2:=⟨_,rfl⟩
 rw [hB2] at hZ ⊢
 have wB:Hid (w.heap.size ≤ B ∧ w.heap.size ≤ B2 ∧ B2 ≠ B):=Lib.hid (by omega)
 rw [hB2] at hz
 have hzB:=Lib.hid (And.intro hz (show B < W.heap.size by omega))
 clear hB2 hz
 go_wp2_with (first
  | (with_reducible refine wpList_load_row rfl 51 _ rfl B rfl 51 M (0,0) _ h0 Tryz.underlying51 rfl (by rw [sM]; kernel_rfl) ?_)
  | (go_at_call 94; (with_reducible refine zo.mono ?_); rintro e w1 ⟨M2,vs,b,rfl,g1,R2,hdec⟩; have G1:=G.trans g1; have s2:=(R2 w1 (hP _ G1) (Keeps.refl _ _)).size; have o2:=(R2 w1 (hP _ G1) (Keeps.refl _ _)).one; have HR2:=Lib.hid R2; have HDEC:=Lib.hid hdec; clear R2 hdec; have hZ1:=wide_blk hZ g1)
  | (with_reducible refine wpList_store_row rfl 51 _ _ rfl B2 M2 rfl rfl 51 zM hZ1 (by rw [s2]; kernel_rfl) (by rw [s2]; exact zM_size) o2 ?_))
 obtain ⟨g6,h6⟩:=setRow_facts M2 hZ1
 have G6:=g6.wider G1 (by intro i m; obtain rfl:=List.mem_singleton.1 m; exact wB.out.2.1)
 have hl:=run_loadVar_row (P:=Tryz.prog) _ B2 51 51 _ (0,0) _ h6 Tryz.underlying51 rfl (by rw [s2]; kernel_rfl)
 have R6:=fun W' (gv:P W') (kp:Keeps w.heap.size _ W') => HR2.out W' gv ((g6.keeps hzB.out.1).trans (Keeps.less kp G.2))
 clear HR2
 simp [bodyPost,results,Tryz.results41,asAddr,hl]
 refine ⟨_,_,b,rfl,G6,R6,?_⟩
 rcases HDEC.out with ⟨e1,e2⟩ | ⟨e1,e2⟩
 · exact .inl ⟨_,e1,e2,rfl⟩
 · exact .inr ⟨e1,e2⟩
def partT (t:Nat):Nat:=if t ≤ 17 then t - 1 else 16
theorem rwith_c {P:World → Prop} {w:World} {M:Array Value} {d:MsgD} (hP:∀ W,Wider w W → P W) (R:∀ W,P W → RepD W M d) (q:ByteArray) (hq:q.size ≤ 65535) (t:Nat) (h1:1 ≤ t) :
 Calls Tryz.prog 41 #[.agg M,.agg #[.int .u8 (t:Int),.string q]] w fun x w' => WithM P w w' x d (partT t) q:=by
 by_cases c:t ≤ 16
 · match t,h1,c with
   | 1,_,_ => exact rwith_num hP R q hq 0 (by decide)
   | 2,_,_ => exact rwith_num hP R q hq 1 (by decide)
   | 3,_,_ => exact rwith_num hP R q hq 2 (by decide)
   | 4,_,_ => exact rwith_num hP R q hq 3 (by decide)
   | 5,_,_ => exact rwith_num hP R q hq 4 (by decide)
   | 6,_,_ => exact rwith_long hP R q hq 5 (by decide)
   | 7,_,_ => exact rwith_long hP R q hq 6 (by decide)
   | 8,_,_ => exact rwith_text hP R q hq
   | 9,_,_ => exact rwith_words hP R q hq
   | 10,_,_ => exact rwith_obj hP R q 10 0 (by decide) fun W g => robject_0 (fun W' g' => hP W' (g.trans g')) R q hq
   | 11,_,_ => exact rwith_obj hP R q 11 1 (by decide) fun W g => robject_1 (fun W' g' => hP W' (g.trans g')) R q hq
   | 12,_,_ => exact rwith_obj hP R q 12 2 (by decide) fun W g => robject_2 (fun W' g' => hP W' (g.trans g')) R q hq
   | 13,_,_ => exact rwith_obj hP R q 13 3 (by decide) fun W g => robject_3 (fun W' g' => hP W' (g.trans g')) R q hq
   | 14,_,_ => exact rwith_obj hP R q 14 4 (by decide) fun W g => robject_4 (fun W' g' => hP W' (g.trans g')) R q hq
   | 15,_,_ => exact rwith_obj hP R q 15 5 (by decide) fun W g => robject_5 (fun W' g' => hP W' (g.trans g')) R q hq
   | 16,_,_ => exact rwith_obj hP R q 16 6 (by decide) fun W g => robject_6 (fun W' g' => hP W' (g.trans g')) R q hq
   | t + 17,_,h => omega
 · have e:partT t = 7 + 9:=by unfold partT; split <;> omega
   rw [e]
   exact rwith_obj hP R q t 7 (by omega) fun W g => robject_7 (fun W' g' => hP W' (g.trans g')) R q hq t (by omega)
end Go.Proofs.YtoopdhgmdjienaaGreatDoor
