/- The examples; entries that may not be, by the kind; tables that may not be; nobody's table: the statement's function returns true. -/
import Derived.Test.YtbnpelciceblfaaGreatW32
import Derived.Test.YtbnpelciceblfaaGreatW09
namespace Go.Proofs.YtbnpelciceblfaaGreat
set_option linter.unusedVariables false
open Go.ChangeShapes Go.WideShapes Go.ChangeAt Go.RowKit Go.Joins
set_option maxHeartbeats 64000000
set_option maxRecDepth 100000 in
theorem tableNames_walk (w:World):Calls Tryz.prog 3 #[] w fun e w' => e = .returned (.bool true) ∧ Wider w w':=by
 refine by_post fun Q hQ => ?_
 have HQ:=Lib.hid hQ
 clear hQ
 go_enter Tryz.func3,Tryz.ntmps3
 go_upto_region 3 with (first
  | (go_at_call 7; ((with_reducible refine (yawake_c _).mono ?_); rintro e w1 ⟨rfl,g⟩)))
 go_cut [78,79,80] (fun a b c wc => ∃ R Z:Nat,a = .slice (some ⟨R,0,none⟩) 26 26 ∧ b = .int .i64 26 ∧ c = .int .i64 0 ∧ Own w wc [blkT R (cellsY Z rowsY).toArray 27,blkT Z #[.int .u64 0,.int .u64 0,.int .u64 0,.int .u64 0,.int .u64 0] 24])
 case first =>
  have H0:=(Own.nil g).blk #[.int .u64 0,.int .u64 0,.int .u64 0,.int .u64 0,.int .u64 0] 24
  obtain ⟨Z,hZ⟩ : ∃ Z,w1.heap.size = Z:=⟨_,rfl⟩
  refine wp_region_lit ?_
  refine wpList_bld rfl 26 #[(1,.const (Value.string { data:=#[97,98] })),(5,.const (.int .i64 1))] rfl (ps:=#[(1,(Value.string { data:=#[97,98] })),(5,(.int .i64 1))]) (by kernel_rfl) (cells:=ey0 Z) (fun w => by kernel_rfl) ?_
  refine wpList_bld rfl 27 #[(0,.const (.int .u8 1)),(1,.tmp 25),(2,.const (Value.bool true))] rfl (ps:=#[(0,(.int .u8 1)),(1,.agg (ey0 Z)),(2,(Value.bool true))]) (by kernel_rfl) (cells:=ry0 Z) (fun w => by kernel_rfl) ?_
  refine wpList_bld rfl 26 #[(1,.const (Value.string { data:=#[97] })),(5,.const (.int .i64 1))] rfl (ps:=#[(1,(Value.string { data:=#[97] })),(5,(.int .i64 1))]) (by kernel_rfl) (cells:=ey1 Z) (fun w => by kernel_rfl) ?_
  refine wpList_bld rfl 27 #[(0,.const (.int .u8 1)),(1,.tmp 27),(2,.const (Value.bool false))] rfl (ps:=#[(0,(.int .u8 1)),(1,.agg (ey1 Z)),(2,(Value.bool false))]) (by kernel_rfl) (cells:=ry1 Z) (fun w => by kernel_rfl) ?_
  refine wpList_bld rfl 26 #[(1,.const (Value.string { data:=#[97,98] })),(2,.const (Value.string { data:=#[97,98] })),(5,.const (.int .i64 1))] rfl (ps:=#[(1,(Value.string { data:=#[97,98] })),(2,(Value.string { data:=#[97,98] })),(5,(.int .i64 1))]) (by kernel_rfl) (cells:=ey2 Z) (fun w => by kernel_rfl) ?_
  refine wpList_bld rfl 27 #[(0,.const (.int .u8 1)),(1,.tmp 29),(2,.const (Value.bool false))] rfl (ps:=#[(0,(.int .u8 1)),(1,.agg (ey2 Z)),(2,(Value.bool false))]) (by kernel_rfl) (cells:=ry2 Z) (fun w => by kernel_rfl) ?_
  refine wpList_bld rfl 26 #[(1,.const (Value.string { data:=#[97,98] })),(3,.const (.int .i64 1)),(5,.const (.int .i64 1))] rfl (ps:=#[(1,(Value.string { data:=#[97,98] })),(3,(.int .i64 1)),(5,(.int .i64 1))]) (by kernel_rfl) (cells:=ey3 Z) (fun w => by kernel_rfl) ?_
  refine wpList_bld rfl 27 #[(0,.const (.int .u8 1)),(1,.tmp 31),(2,.const (Value.bool false))] rfl (ps:=#[(0,(.int .u8 1)),(1,.agg (ey3 Z)),(2,(Value.bool false))]) (by kernel_rfl) (cells:=ry3 Z) (fun w => by kernel_rfl) ?_
  refine wpList_bld rfl 26 #[(1,.const (Value.string { data:=#[97,98] })),(4,.const (.int .i64 1)),(5,.const (.int .i64 1))] rfl (ps:=#[(1,(Value.string { data:=#[97,98] })),(4,(.int .i64 1)),(5,(.int .i64 1))]) (by kernel_rfl) (cells:=ey4 Z) (fun w => by kernel_rfl) ?_
  refine wpList_bld rfl 27 #[(0,.const (.int .u8 1)),(1,.tmp 33),(2,.const (Value.bool false))] rfl (ps:=#[(0,(.int .u8 1)),(1,.agg (ey4 Z)),(2,(Value.bool false))]) (by kernel_rfl) (cells:=ry4 Z) (fun w => by kernel_rfl) ?_
  refine wpList_bld rfl 26 #[(1,.const (Value.string { data:=#[97,98] }))] rfl (ps:=#[(1,(Value.string { data:=#[97,98] }))]) (by kernel_rfl) (cells:=ey5 Z) (fun w => by kernel_rfl) ?_
  refine wpList_bld rfl 27 #[(0,.const (.int .u8 1)),(1,.tmp 35),(2,.const (Value.bool false))] rfl (ps:=#[(0,(.int .u8 1)),(1,.agg (ey5 Z)),(2,(Value.bool false))]) (by kernel_rfl) (cells:=ry5 Z) (fun w => by kernel_rfl) ?_
  refine wpList_bld rfl 26 #[(1,.const (Value.string { data:=#[97,98] })),(5,.const (.int .i64 65535))] rfl (ps:=#[(1,(Value.string { data:=#[97,98] })),(5,(.int .i64 65535))]) (by kernel_rfl) (cells:=ey6 Z) (fun w => by kernel_rfl) ?_
  refine wpList_bld rfl 27 #[(0,.const (.int .u8 1)),(1,.tmp 37),(2,.const (Value.bool false))] rfl (ps:=#[(0,(.int .u8 1)),(1,.agg (ey6 Z)),(2,(Value.bool false))]) (by kernel_rfl) (cells:=ry6 Z) (fun w => by kernel_rfl) ?_
  refine wpList_mks rfl 23 (.const (.int .i64 5)) (.const (.int .i64 5)) rfl (u:=.int .i64 5) (v:=.int .i64 5) rfl rfl (zmakeU5 _) ?_
  rw [hZ]
  refine wpList_bld rfl 26 #[(1,.const (Value.string { data:=#[97,98] })),(5,.const (.int .i64 1)),(6,.tmp 39)] rfl (ps:=#[(1,(Value.string { data:=#[97,98] })),(5,(.int .i64 1)),(6,.slice (some ⟨Z,0,none⟩) 5 5)]) (by kernel_rfl) (cells:=ey7 Z) (fun w => by kernel_rfl) ?_
  refine wpList_bld rfl 27 #[(0,.const (.int .u8 1)),(1,.tmp 40),(2,.const (Value.bool false))] rfl (ps:=#[(0,(.int .u8 1)),(1,.agg (ey7 Z)),(2,(Value.bool false))]) (by kernel_rfl) (cells:=ry7 Z) (fun w => by kernel_rfl) ?_
  refine wpList_bld rfl 26 #[(1,.const (Value.string { data:=#[97,98] })),(5,.const (.int .i64 1)),(7,.const (Value.int IntKind.i64 (-1)))] rfl (ps:=#[(1,(Value.string { data:=#[97,98] })),(5,(.int .i64 1)),(7,(Value.int IntKind.i64 (-1)))]) (by kernel_rfl) (cells:=ey8 Z) (fun w => by kernel_rfl) ?_
  refine wpList_bld rfl 27 #[(0,.const (.int .u8 1)),(1,.tmp 42),(2,.const (Value.bool false))] rfl (ps:=#[(0,(.int .u8 1)),(1,.agg (ey8 Z)),(2,(Value.bool false))]) (by kernel_rfl) (cells:=ry8 Z) (fun w => by kernel_rfl) ?_
  refine wpList_bld rfl 26 #[(1,.const (Value.string { data:=#[97,98] })),(5,.const (.int .i64 1)),(8,.const (.int .i64 1099511627777))] rfl (ps:=#[(1,(Value.string { data:=#[97,98] })),(5,(.int .i64 1)),(8,(.int .i64 1099511627777))]) (by kernel_rfl) (cells:=ey9 Z) (fun w => by kernel_rfl) ?_
  refine wpList_bld rfl 27 #[(0,.const (.int .u8 1)),(1,.tmp 44),(2,.const (Value.bool false))] rfl (ps:=#[(0,(.int .u8 1)),(1,.agg (ey9 Z)),(2,(Value.bool false))]) (by kernel_rfl) (cells:=ry9 Z) (fun w => by kernel_rfl) ?_
  refine wpList_bld rfl 26 #[(1,.const (Value.string { data:=#[128,0] })),(3,.const (.int .i64 1)),(5,.const (.int .i64 1))] rfl (ps:=#[(1,(Value.string { data:=#[128,0] })),(3,(.int .i64 1)),(5,(.int .i64 1))]) (by kernel_rfl) (cells:=ey10 Z) (fun w => by kernel_rfl) ?_
  refine wpList_bld rfl 27 #[(0,.const (.int .u8 2)),(1,.tmp 46),(2,.const (Value.bool true))] rfl (ps:=#[(0,(.int .u8 2)),(1,.agg (ey10 Z)),(2,(Value.bool true))]) (by kernel_rfl) (cells:=ry10 Z) (fun w => by kernel_rfl) ?_
  refine wpList_bld rfl 26 #[(1,.const (Value.string { data:=#[0,0] })),(5,.const (.int .i64 1))] rfl (ps:=#[(1,(Value.string { data:=#[0,0] })),(5,(.int .i64 1))]) (by kernel_rfl) (cells:=ey11 Z) (fun w => by kernel_rfl) ?_
  refine wpList_bld rfl 27 #[(0,.const (.int .u8 2)),(1,.tmp 48),(2,.const (Value.bool true))] rfl (ps:=#[(0,(.int .u8 2)),(1,.agg (ey11 Z)),(2,(Value.bool true))]) (by kernel_rfl) (cells:=ry11 Z) (fun w => by kernel_rfl) ?_
  refine wpList_bld rfl 26 #[(1,.const (Value.string { data:=#[97,98] })),(3,.const (.int .i64 16)),(5,.const (.int .i64 1))] rfl (ps:=#[(1,(Value.string { data:=#[97,98] })),(3,(.int .i64 16)),(5,(.int .i64 1))]) (by kernel_rfl) (cells:=ey12 Z) (fun w => by kernel_rfl) ?_
  refine wpList_bld rfl 27 #[(0,.const (.int .u8 2)),(1,.tmp 50),(2,.const (Value.bool true))] rfl (ps:=#[(0,(.int .u8 2)),(1,.agg (ey12 Z)),(2,(Value.bool true))]) (by kernel_rfl) (cells:=ry12 Z) (fun w => by kernel_rfl) ?_
  refine wpList_bld rfl 26 #[(1,.const (Value.string { data:=#[128,1] })),(3,.const (.int .i64 15)),(5,.const (.int .i64 1))] rfl (ps:=#[(1,(Value.string { data:=#[128,1] })),(3,(.int .i64 15)),(5,(.int .i64 1))]) (by kernel_rfl) (cells:=ey13 Z) (fun w => by kernel_rfl) ?_
  refine wpList_bld rfl 27 #[(0,.const (.int .u8 2)),(1,.tmp 52),(2,.const (Value.bool false))] rfl (ps:=#[(0,(.int .u8 2)),(1,.agg (ey13 Z)),(2,(Value.bool false))]) (by kernel_rfl) (cells:=ry13 Z) (fun w => by kernel_rfl) ?_
  refine wpList_bld rfl 26 #[(1,.const (Value.string { data:=#[97,98] })),(3,.const (.int .i64 17)),(5,.const (.int .i64 1))] rfl (ps:=#[(1,(Value.string { data:=#[97,98] })),(3,(.int .i64 17)),(5,(.int .i64 1))]) (by kernel_rfl) (cells:=ey14 Z) (fun w => by kernel_rfl) ?_
  refine wpList_bld rfl 27 #[(0,.const (.int .u8 2)),(1,.tmp 54),(2,.const (Value.bool false))] rfl (ps:=#[(0,(.int .u8 2)),(1,.agg (ey14 Z)),(2,(Value.bool false))]) (by kernel_rfl) (cells:=ry14 Z) (fun w => by kernel_rfl) ?_
  refine wpList_bld rfl 26 #[(1,.const (Value.string { data:=#[97,98] })),(3,.const (Value.int IntKind.i64 (-1))),(5,.const (.int .i64 1))] rfl (ps:=#[(1,(Value.string { data:=#[97,98] })),(3,(Value.int IntKind.i64 (-1))),(5,(.int .i64 1))]) (by kernel_rfl) (cells:=ey15 Z) (fun w => by kernel_rfl) ?_
  refine wpList_bld rfl 27 #[(0,.const (.int .u8 2)),(1,.tmp 56),(2,.const (Value.bool false))] rfl (ps:=#[(0,(.int .u8 2)),(1,.agg (ey15 Z)),(2,(Value.bool false))]) (by kernel_rfl) (cells:=ry15 Z) (fun w => by kernel_rfl) ?_
  refine wpList_bld rfl 26 #[(1,.const (Value.string { data:=#[97,98] })),(3,.const (.int .i64 16)),(4,.const (.int .i64 1)),(5,.const (.int .i64 1))] rfl (ps:=#[(1,(Value.string { data:=#[97,98] })),(3,(.int .i64 16)),(4,(.int .i64 1)),(5,(.int .i64 1))]) (by kernel_rfl) (cells:=ey16 Z) (fun w => by kernel_rfl) ?_
  refine wpList_bld rfl 27 #[(0,.const (.int .u8 2)),(1,.tmp 58),(2,.const (Value.bool false))] rfl (ps:=#[(0,(.int .u8 2)),(1,.agg (ey16 Z)),(2,(Value.bool false))]) (by kernel_rfl) (cells:=ry16 Z) (fun w => by kernel_rfl) ?_
  refine wpList_bld rfl 26 #[(1,.const (Value.string { data:=#[1,0] })),(2,.const (Value.string { data:=#[1,255] })),(4,.const (.int .i64 2147483647)),(5,.const (.int .i64 1))] rfl (ps:=#[(1,(Value.string { data:=#[1,0] })),(2,(Value.string { data:=#[1,255] })),(4,(.int .i64 2147483647)),(5,(.int .i64 1))]) (by kernel_rfl) (cells:=ey17 Z) (fun w => by kernel_rfl) ?_
  refine wpList_bld rfl 27 #[(0,.const (.int .u8 3)),(1,.tmp 60),(2,.const (Value.bool true))] rfl (ps:=#[(0,(.int .u8 3)),(1,.agg (ey17 Z)),(2,(Value.bool true))]) (by kernel_rfl) (cells:=ry17 Z) (fun w => by kernel_rfl) ?_
  refine wpList_bld rfl 26 #[(1,.const (Value.string { data:=#[2,0] })),(2,.const (Value.string { data:=#[1,255] })),(5,.const (.int .i64 1))] rfl (ps:=#[(1,(Value.string { data:=#[2,0] })),(2,(Value.string { data:=#[1,255] })),(5,(.int .i64 1))]) (by kernel_rfl) (cells:=ey18 Z) (fun w => by kernel_rfl) ?_
  refine wpList_bld rfl 27 #[(0,.const (.int .u8 3)),(1,.tmp 62),(2,.const (Value.bool false))] rfl (ps:=#[(0,(.int .u8 3)),(1,.agg (ey18 Z)),(2,(Value.bool false))]) (by kernel_rfl) (cells:=ry18 Z) (fun w => by kernel_rfl) ?_
  refine wpList_bld rfl 26 #[(1,.const (Value.string { data:=#[97,98] })),(2,.const (Value.string { data:=#[97] })),(5,.const (.int .i64 1))] rfl (ps:=#[(1,(Value.string { data:=#[97,98] })),(2,(Value.string { data:=#[97] })),(5,(.int .i64 1))]) (by kernel_rfl) (cells:=ey19 Z) (fun w => by kernel_rfl) ?_
  refine wpList_bld rfl 27 #[(0,.const (.int .u8 3)),(1,.tmp 64),(2,.const (Value.bool false))] rfl (ps:=#[(0,(.int .u8 3)),(1,.agg (ey19 Z)),(2,(Value.bool false))]) (by kernel_rfl) (cells:=ry19 Z) (fun w => by kernel_rfl) ?_
  refine wpList_bld rfl 26 #[(1,.const (Value.string { data:=#[97,98] })),(2,.const (Value.string { data:=#[255,255] })),(4,.const (Value.int IntKind.i64 (-1))),(5,.const (.int .i64 1))] rfl (ps:=#[(1,(Value.string { data:=#[97,98] })),(2,(Value.string { data:=#[255,255] })),(4,(Value.int IntKind.i64 (-1))),(5,(.int .i64 1))]) (by kernel_rfl) (cells:=ey20 Z) (fun w => by kernel_rfl) ?_
  refine wpList_bld rfl 27 #[(0,.const (.int .u8 3)),(1,.tmp 66),(2,.const (Value.bool false))] rfl (ps:=#[(0,(.int .u8 3)),(1,.agg (ey20 Z)),(2,(Value.bool false))]) (by kernel_rfl) (cells:=ry20 Z) (fun w => by kernel_rfl) ?_
  refine wpList_bld rfl 26 #[(1,.const (Value.string { data:=#[97,98] })),(2,.const (Value.string { data:=#[255,255] })),(3,.const (.int .i64 1)),(5,.const (.int .i64 1))] rfl (ps:=#[(1,(Value.string { data:=#[97,98] })),(2,(Value.string { data:=#[255,255] })),(3,(.int .i64 1)),(5,(.int .i64 1))]) (by kernel_rfl) (cells:=ey21 Z) (fun w => by kernel_rfl) ?_
  refine wpList_bld rfl 27 #[(0,.const (.int .u8 3)),(1,.tmp 68),(2,.const (Value.bool false))] rfl (ps:=#[(0,(.int .u8 3)),(1,.agg (ey21 Z)),(2,(Value.bool false))]) (by kernel_rfl) (cells:=ry21 Z) (fun w => by kernel_rfl) ?_
  refine wpList_bld rfl 26 #[(1,.const (Value.string { data:=#[97,98] })),(2,.const (Value.string { data:=#[97,98] })),(5,.const (.int .i64 1))] rfl (ps:=#[(1,(Value.string { data:=#[97,98] })),(2,(Value.string { data:=#[97,98] })),(5,(.int .i64 1))]) (by kernel_rfl) (cells:=ey22 Z) (fun w => by kernel_rfl) ?_
  refine wpList_bld rfl 27 #[(0,.const (.int .u8 4)),(1,.tmp 70),(2,.const (Value.bool true))] rfl (ps:=#[(0,(.int .u8 4)),(1,.agg (ey22 Z)),(2,(Value.bool true))]) (by kernel_rfl) (cells:=ry22 Z) (fun w => by kernel_rfl) ?_
  refine wpList_bld rfl 26 #[(1,.const (Value.string { data:=#[97,98] })),(2,.const (Value.string { data:=#[98,97] })),(5,.const (.int .i64 1))] rfl (ps:=#[(1,(Value.string { data:=#[97,98] })),(2,(Value.string { data:=#[98,97] })),(5,(.int .i64 1))]) (by kernel_rfl) (cells:=ey23 Z) (fun w => by kernel_rfl) ?_
  refine wpList_bld rfl 27 #[(0,.const (.int .u8 4)),(1,.tmp 72),(2,.const (Value.bool false))] rfl (ps:=#[(0,(.int .u8 4)),(1,.agg (ey23 Z)),(2,(Value.bool false))]) (by kernel_rfl) (cells:=ry23 Z) (fun w => by kernel_rfl) ?_
  refine wpList_bld rfl 26 #[(1,.const (Value.string { data:=#[97,98] })),(2,.const (Value.string { data:=#[98] })),(5,.const (.int .i64 1))] rfl (ps:=#[(1,(Value.string { data:=#[97,98] })),(2,(Value.string { data:=#[98] })),(5,(.int .i64 1))]) (by kernel_rfl) (cells:=ey24 Z) (fun w => by kernel_rfl) ?_
  refine wpList_bld rfl 27 #[(0,.const (.int .u8 4)),(1,.tmp 74),(2,.const (Value.bool false))] rfl (ps:=#[(0,(.int .u8 4)),(1,.agg (ey24 Z)),(2,(Value.bool false))]) (by kernel_rfl) (cells:=ry24 Z) (fun w => by kernel_rfl) ?_
  refine wpList_bld rfl 26 #[(1,.const (Value.string { data:=#[97,98] })),(2,.const (Value.string { data:=#[98,98] })),(4,.const (.int .i64 2147483648)),(5,.const (.int .i64 1))] rfl (ps:=#[(1,(Value.string { data:=#[97,98] })),(2,(Value.string { data:=#[98,98] })),(4,(.int .i64 2147483648)),(5,(.int .i64 1))]) (by kernel_rfl) (cells:=ey25 Z) (fun w => by kernel_rfl) ?_
  refine wpList_bld rfl 27 #[(0,.const (.int .u8 4)),(1,.tmp 76),(2,.const (Value.bool false))] rfl (ps:=#[(0,(.int .u8 4)),(1,.agg (ey25 Z)),(2,(Value.bool false))]) (by kernel_rfl) (cells:=ry25 Z) (fun w => by kernel_rfl) ?_
  obtain ⟨W2,hW2⟩ : ∃ W,w1.alloc (.cells #[.int .u64 0,.int .u64 0,.int .u64 0,.int .u64 0,.int .u64 0] 24) = W:=⟨_,rfl⟩
  rw [hW2] at H0 ⊢
  rw [hZ] at H0
  refine wpList_bsl rfl 28 26 #[(0,.tmp 26),(1,.tmp 28),(2,.tmp 30),(3,.tmp 32),(4,.tmp 34),(5,.tmp 36),(6,.tmp 38),(7,.tmp 41),(8,.tmp 43),(9,.tmp 45),(10,.tmp 47),(11,.tmp 49),(12,.tmp 51),(13,.tmp 53),(14,.tmp 55),(15,.tmp 57),(16,.tmp 59),(17,.tmp 61),(18,.tmp 63),(19,.tmp 65),(20,.tmp 67),(21,.tmp 69),(22,.tmp 71),(23,.tmp 73),(24,.tmp 75),(25,.tmp 77)] rfl (ps:=#[(0,.agg (ry0 Z)),(1,.agg (ry1 Z)),(2,.agg (ry2 Z)),(3,.agg (ry3 Z)),(4,.agg (ry4 Z)),(5,.agg (ry5 Z)),(6,.agg (ry6 Z)),(7,.agg (ry7 Z)),(8,.agg (ry8 Z)),(9,.agg (ry9 Z)),(10,.agg (ry10 Z)),(11,.agg (ry11 Z)),(12,.agg (ry12 Z)),(13,.agg (ry13 Z)),(14,.agg (ry14 Z)),(15,.agg (ry15 Z)),(16,.agg (ry16 Z)),(17,.agg (ry17 Z)),(18,.agg (ry18 Z)),(19,.agg (ry19 Z)),(20,.agg (ry20 Z)),(21,.agg (ry21 Z)),(22,.agg (ry22 Z)),(23,.agg (ry23 Z)),(24,.agg (ry24 Z)),(25,.agg (ry25 Z))]) (by kernel_rfl) (build26 _ Z) ?_
  have H1:=H0.blk (cellsY Z rowsY).toArray 27
  go_wp2
  go_meet
  exact ⟨_,Z,rfl,rfl,rfl,H1⟩
 case rest =>
  obtain ⟨R,Z,rfl,rfl,rfl,H⟩:=hcut
  clear g
  have HR:Hid (∀ W,Own w W [blkT R (cellsY Z rowsY).toArray 27,blkT Z #[.int .u64 0,.int .u64 0,.int .u64 0,.int .u64 0,.int .u64 0] 24] → W.heap[R]? = some (.cells (cellsY Z rowsY).toArray 27 (0,0))):=Lib.hid fun W k => k.head
  obtain ⟨CY,hCY⟩ : ∃ C,(cellsY Z rowsY).toArray = C:=⟨_,rfl⟩
  rw [hCY] at H HR
  have HCY:=Lib.hid hCY
  clear hCY
  go_wp2
  go_loopw [2,3,80] (fun _ _ c wr => ∃ i:Nat,i ≤ 26 ∧ c = .int .i64 (i:Int) ∧ Own w wr [blkT R CY 27,blkT Z #[.int .u64 0,.int .u64 0,.int .u64 0,.int .u64 0,.int .u64 0] 24]) (fun _ _ c _ => 26 - (intOf c).toNat)
  case atStart => exact ⟨0,Nat.zero_le _,rfl,H⟩
  case round =>
   clear H
   obtain ⟨i,hi,rfl,H⟩:=hrel
   by_cases c:i < 26
   · obtain ⟨k,x,A,n,b,hr⟩:=rowY_at Z i c
     rw [HCY.out] at hr
     have q0:(0:Int) ≤ (i:Int):=by omega
     have q1:(i:Int) < 26:=by omega
     have hb:=H.head
     have hsz:i * 13 + 13 ≤ CY.size:=by rw [← HCY.out,cellsY_len]; omega
     have HRW:=Lib.hid hr
     have hrc:=hr.c
     clear hr
     obtain ⟨tb,key,oth,ln,pr,bk,args,idle,hard,ck,tl⟩:=x
     have r0:wr.cell? ⟨R,i * 13,none⟩ = some (.int .u8 k):=part_cell hb hrc 0 rfl
     have r1:=part_cell hb hrc 1 (v:=.int .i64 tb) rfl
     have r2:=part_cell hb hrc 2 (v:=.string key) rfl
     have r3:=part_cell hb hrc 3 (v:=.string oth) rfl
     have r4:=part_cell hb hrc 4 (v:=.int .i64 ln) rfl
     have r5:=part_cell hb hrc 5 (v:=.int .i64 pr) rfl
     have r6:=part_cell hb hrc 6 (v:=.int .i64 bk) rfl
     have r7:=part_cell hb hrc 7 (v:=.slice A n n) rfl
     have r8:=part_cell hb hrc 8 (v:=.int .i64 idle) rfl
     have r9:=part_cell hb hrc 9 (v:=.int .i64 hard) rfl
     have r10:=part_cell hb hrc 10 (v:=.int .u64 ck) rfl
     have r11:=part_cell hb hrc 11 (v:=.bool tl) rfl
     have r12:=part_cell hb hrc 12 (v:=.bool b) rfl
     clear hrc hb hsz
     go_upto_region 6 with (fail)
     have hp:=HRW.out
     obtain ⟨X,hX⟩ : ∃ X,wr.heap.size = X:=⟨_,rfl⟩
     obtain ⟨W1,hW1⟩ : ∃ W,wr.alloc (.cells #[.int .u8 k,.int .i64 tb,.string key,.string oth,.int .i64 ln,.int .i64 pr,.int .i64 bk,.slice A n n,.int .i64 idle,.int .i64 hard,.int .u64 ck,.bool tl,.bool b] 27) = W:=⟨_,rfl⟩
     have H1:=H.blk #[.int .u8 k,.int .i64 tb,.string key,.string oth,.int .i64 ln,.int .i64 pr,.int .i64 bk,.slice A n n,.int .i64 idle,.int .i64 hard,.int .u64 ck,.bool tl,.bool b] 27
     rw [hX,hW1] at H1
     try rw [hX]
     try rw [hW1]
     clear hX hW1 H r0 r1 r2 r3 r4 r5 r6 r7 r8 r9 r10 r11 r12
     have f0:=blk_cell H1.head 0 (v:=.int .u8 k) rfl
     have H2:=H1.blk #[.int .i64 1,.int .i64 1] 3
     have zo:=of2_c H2 (kind:=k) (room:=3) (WA:=some ⟨W1.heap.size,0,none⟩) (wc:=2) (zs:=[1,1]) (fun W hW => nums_blk (zs:=[1,1]) hW (.head _) rfl) (mayTab11 hp.k1 hp.k4)
     clear H1 H2
     go_upto_region 7 with (first
      | (go_at_call 8; ((with_reducible refine zo.mono ?_); rintro e w2 ⟨S,rfl,K0⟩; clear zo f0)))
     have K1:StoreIs w w2 [blkT X #[.int .u8 k,.int .i64 tb,.string key,.string oth,.int .i64 ln,.int .i64 pr,.int .i64 bk,.slice A n n,.int .i64 idle,.int .i64 hard,.int .u64 ck,.bool tl,.bool b] 27,blkT R CY 27,blkT Z #[.int .u64 0,.int .u64 0,.int .u64 0,.int .u64 0,.int .u64 0] 24] S ⟨1,kmOf k [1,1],3,[],0⟩:=K0.is.less (M:=[_])
     clear K0
     have e1:=blk_cell (K1.rest.holds (blkT X #[.int .u8 k,.int .i64 tb,.string key,.string oth,.int .i64 ln,.int .i64 pr,.int .i64 bk,.slice A n n,.int .i64 idle,.int .i64 hard,.int .u64 ck,.bool tl,.bool b] 27) (.head _)) 1 (v:=.int .i64 tb) rfl
     have g1:=blk_free (K1.rest.holds (blkT X #[.int .u8 k,.int .i64 tb,.string key,.string oth,.int .i64 ln,.int .i64 pr,.int .i64 bk,.slice A n n,.int .i64 idle,.int .i64 hard,.int .u64 ck,.bool tl,.bool b] 27) (.head _)) 1
     have K2:=K1.store 1 (.int .i64 1)
     go_upto_region 8 with (fail)
     obtain ⟨W3,hW3⟩ : ∃ W,w2.setCell ⟨X,1,none⟩ (.int .i64 1) = W:=⟨_,rfl⟩
     rw [hW3] at K2
     try rw [hW3]
     clear K1 e1 g1 hW3
     have K3:StoreIs w W3.drew [blkT X #[.int .u8 k,.int .i64 1,.string key,.string oth,.int .i64 ln,.int .i64 pr,.int .i64 bk,.slice A n n,.int .i64 idle,.int .i64 hard,.int .u64 ck,.bool tl,.bool b] 27,blkT R CY 27,blkT Z #[.int .u64 0,.int .u64 0,.int .u64 0,.int .u64 0,.int .u64 0] 24] S ⟨1,kmOf k [1,1],3,[],0⟩:=K2.quiet (Wider.refl _).drew
     clear K2
     have har:=fun (W:World) (hW:Own w W [blkT X #[.int .u8 k,.int .i64 1,.string key,.string oth,.int .i64 ln,.int .i64 pr,.int .i64 bk,.slice A n n,.int .i64 idle,.int .i64 hard,.int .u64 ck,.bool tl,.bool b] 27,blkT R CY 27,blkT Z #[.int .u64 0,.int .u64 0,.int .u64 0,.int .u64 0,.int .u64 0] 24]) => argsY hW (.tail _ (.tail _ (.head _))) hp.ar
     have zm0:=fun (W:World) (K:StoreIs w W [blkT X #[.int .u8 k,.int .i64 1,.string key,.string oth,.int .i64 ln,.int .i64 pr,.int .i64 bk,.slice A n n,.int .i64 idle,.int .i64 hard,.int .u64 ck,.bool tl,.bool b] 27,blkT R CY 27,blkT Z #[.int .u64 0,.int .u64 0,.int .u64 0,.int .u64 0,.int .u64 0] 24] S ⟨1,kmOf k [1,1],3,[],0⟩) => ymay_c K (x:=⟨1,key,oth,ln,pr,bk,args,idle,hard,ck,tl⟩) (av:=.slice A n n) (har _ K.rest) hp.ok1
     have may1:mayT ⟨1,kmOf k [1,1],3,[],0⟩ ⟨1,key,oth,ln,pr,bk,args,idle,hard,ck,tl⟩ = b:=hp.may1
     have zp0:=fun (W:World) (K:StoreIs w W [blkT X #[.int .u8 k,.int .i64 1,.string key,.string oth,.int .i64 ln,.int .i64 pr,.int .i64 bk,.slice A n n,.int .i64 idle,.int .i64 hard,.int .u64 ck,.bool tl,.bool b] 27,blkT R CY 27,blkT Z #[.int .u64 0,.int .u64 0,.int .u64 0,.int .u64 0,.int .u64 0] 24] S ⟨1,kmOf k [1,1],3,[],0⟩) => yput_c K (show (0:Nat) < 99990 by decide) (x:=⟨1,key,oth,ln,pr,bk,args,idle,hard,ck,tl⟩) (av:=.slice A n n) har hp.ok1 0
     have ec:codeP ⟨1,kmOf k [1,1],3,[],0⟩ ⟨1,key,oth,ln,pr,bk,args,idle,hard,ck,tl⟩ = if b = true then 0 else 3:=by
      unfold codeP
      rw [may1]
      cases b
      · rfl
      · rw [if_pos rfl,if_pos rfl,if_pos (.inr (show (0:Nat) < 3 by decide))]
     rw [ec] at zp0
     rw [may1] at zm0
     have HAR:=Lib.hid hp.ar
     have HO2:=Lib.hid hp.ok2
     obtain ⟨s1,hs1⟩ : ∃ s1,putS ⟨1,kmOf k [1,1],3,[],0⟩ ⟨1,key,oth,ln,pr,bk,args,idle,hard,ck,tl⟩ 0 = s1:=⟨_,rfl⟩
     have HS1:Hid (s1.id = 1):=Lib.hid (by rw [← hs1,putS_id])
     have may2:mayT s1 ⟨1,key,oth,ln,pr,bk,args,idle,hard,ck,tl⟩ = b:=by rw [← hs1,mayT_putS]; exact may1
     have zm1:=fun (W:World) (K:StoreIs w W [blkT X #[.int .u8 k,.int .i64 1,.string key,.string oth,.int .i64 ln,.int .i64 pr,.int .i64 bk,.slice A n n,.int .i64 idle,.int .i64 hard,.int .u64 ck,.bool tl,.bool b] 27,blkT R CY 27,blkT Z #[.int .u64 0,.int .u64 0,.int .u64 0,.int .u64 0,.int .u64 0] 24] S s1) => ymay_c K (x:=⟨1,key,oth,ln,pr,bk,args,idle,hard,ck,tl⟩) (av:=.slice A n n) (har _ K.rest) hp.ok1
     rw [may2] at zm1
     rw [hs1] at zp0
     obtain ⟨s0,hs0⟩ : ∃ s0:StM,(⟨1,kmOf k [1,1],3,[],0⟩ : StM) = s0:=⟨_,rfl⟩
     rw [hs0] at K3 zp0 zm0
     obtain ⟨code,hcode⟩ : ∃ code:Int,(if b = true then 0 else 3) = code:=⟨_,rfl⟩
     rw [hcode] at zm0 zm1 zp0
     have zm:∀ W,(StoreIs w W [blkT X #[.int .u8 k,.int .i64 1,.string key,.string oth,.int .i64 ln,.int .i64 pr,.int .i64 bk,.slice A n n,.int .i64 idle,.int .i64 hard,.int .u64 ck,.bool tl,.bool b] 27,blkT R CY 27,blkT Z #[.int .u64 0,.int .u64 0,.int .u64 0,.int .u64 0,.int .u64 0] 24] S s0 ∨ StoreIs w W [blkT X #[.int .u8 k,.int .i64 1,.string key,.string oth,.int .i64 ln,.int .i64 pr,.int .i64 bk,.slice A n n,.int .i64 idle,.int .i64 hard,.int .u64 ck,.bool tl,.bool b] 27,blkT R CY 27,blkT Z #[.int .u64 0,.int .u64 0,.int .u64 0,.int .u64 0,.int .u64 0] 24] S s1) → Calls Tryz.prog 9 #[.pointer (some ⟨S,0,none⟩),.agg #[.int .i64 1,.string key,.string oth,.int .i64 ln,.int .i64 pr,.int .i64 bk,.slice A n n,.int .i64 idle,.int .i64 hard,.int .u64 ck,.bool tl]] W fun e w' => e = .returned (.int .i64 code) ∧ Wider W w':=fun W h => h.elim (zm0 W) (zm1 W)
     have zp0:∀ W,StoreIs w W [blkT X #[.int .u8 k,.int .i64 1,.string key,.string oth,.int .i64 ln,.int .i64 pr,.int .i64 bk,.slice A n n,.int .i64 idle,.int .i64 hard,.int .u64 ck,.bool tl,.bool b] 27,blkT R CY 27,blkT Z #[.int .u64 0,.int .u64 0,.int .u64 0,.int .u64 0,.int .u64 0] 24] S s0 → Calls Tryz.prog 10 #[.pointer (some ⟨S,0,none⟩),.agg #[.int .i64 1,.string key,.string oth,.int .i64 ln,.int .i64 pr,.int .i64 bk,.slice A n n,.int .i64 idle,.int .i64 hard,.int .u64 ck,.bool tl],.int .i64 0] W fun e w' => e = .returned (.int .i64 code) ∧ StoreIs w w' [blkT X #[.int .u8 k,.int .i64 1,.string key,.string oth,.int .i64 ln,.int .i64 pr,.int .i64 bk,.slice A n n,.int .i64 idle,.int .i64 hard,.int .u64 ck,.bool tl,.bool b] 27,blkT R CY 27,blkT Z #[.int .u64 0,.int .u64 0,.int .u64 0,.int .u64 0,.int .u64 0] 24] S s1:=zp0
     have hcb:(b = true ∧ code = 0) ∨ (b = false ∧ code = 3):=by
      cases b
      · exact .inr ⟨rfl,hcode.symm⟩
      · exact .inl ⟨rfl,hcode.symm⟩
     have hXB:∀ W,(StoreIs w W [blkT X #[.int .u8 k,.int .i64 1,.string key,.string oth,.int .i64 ln,.int .i64 pr,.int .i64 bk,.slice A n n,.int .i64 idle,.int .i64 hard,.int .u64 ck,.bool tl,.bool b] 27,blkT R CY 27,blkT Z #[.int .u64 0,.int .u64 0,.int .u64 0,.int .u64 0,.int .u64 0] 24] S s0 ∨ StoreIs w W [blkT X #[.int .u8 k,.int .i64 1,.string key,.string oth,.int .i64 ln,.int .i64 pr,.int .i64 bk,.slice A n n,.int .i64 idle,.int .i64 hard,.int .u64 ck,.bool tl,.bool b] 27,blkT R CY 27,blkT Z #[.int .u64 0,.int .u64 0,.int .u64 0,.int .u64 0,.int .u64 0] 24] S s1) → W.heap[X]? = some (.cells #[.int .u8 k,.int .i64 1,.string key,.string oth,.int .i64 ln,.int .i64 pr,.int .i64 bk,.slice A n n,.int .i64 idle,.int .i64 hard,.int .u64 ck,.bool tl,.bool b] 27 (0,0)):=fun W h => h.elim (fun K => K.rest.holds (blkT X #[.int .u8 k,.int .i64 1,.string key,.string oth,.int .i64 ln,.int .i64 pr,.int .i64 bk,.slice A n n,.int .i64 idle,.int .i64 hard,.int .u64 ck,.bool tl,.bool b] 27) (.head _)) (fun K => K.rest.holds (blkT X #[.int .u8 k,.int .i64 1,.string key,.string oth,.int .i64 ln,.int .i64 pr,.int .i64 bk,.slice A n n,.int .i64 idle,.int .i64 hard,.int .u64 ck,.bool tl,.bool b] 27) (.head _))
     clear ec may1 may2 har hp hs1 hs0 hcode zm0 zm1 HRW
     try dsimp only [List.append]
     try simp only [Act.put,List.setIfInBounds_toArray,List.set_cons_succ,List.set_cons_zero]
     refine gen_act (Φ:=fun a => (Code.region 8 _ true).wp Tryz.prog _ a _) _ ?_
     intro a0 ha0
     have zs:a0.tmps.size = 254:=by rw [ha0]; rfl
     have z2:a0.eval (.tmp 2) = .pointer (some ⟨X,0,none⟩):=by rw [ha0]; rfl
     have z3:a0.eval (.tmp 3) = .pointer (some ⟨S,0,none⟩):=by rw [ha0]; rfl
     have zd:a0.defers = []:=by rw [ha0]
     have HA0:=Lib.hid ha0
     clear ha0
     refine wp_region_turn 16 (fun W => StoreIs w W [blkT X #[.int .u8 k,.int .i64 1,.string key,.string oth,.int .i64 ln,.int .i64 pr,.int .i64 bk,.slice A n n,.int .i64 idle,.int .i64 hard,.int .u64 ck,.bool tl,.bool b] 27,blkT R CY 27,blkT Z #[.int .u64 0,.int .u64 0,.int .u64 0,.int .u64 0,.int .u64 0] 24] S s0) (fun W => StoreIs w W [blkT X #[.int .u8 k,.int .i64 1,.string key,.string oth,.int .i64 ln,.int .i64 pr,.int .i64 bk,.slice A n n,.int .i64 idle,.int .i64 hard,.int .u64 ck,.bool tl,.bool b] 27,blkT R CY 27,blkT Z #[.int .u64 0,.int .u64 0,.int .u64 0,.int .u64 0,.int .u64 0] 24] S s1) [90,91,92,93,94,95,96,97,98,99,100,101,102,103,104,105,106,107,108,109,110,111] [spEq (.pointer (some ⟨S,0,none⟩)),spEq (.bool false),spEq (.bool false),spIf (false = false) (.pointer (some ⟨S,0,none⟩)),spIf (false = false) (.pointer (some ⟨X,1,none⟩)),spIf (false = false) (.agg #[.int .i64 1,.string key,.string oth,.int .i64 ln,.int .i64 pr,.int .i64 bk,.slice A n n,.int .i64 idle,.int .i64 hard,.int .u64 ck,.bool tl]),spIf (false = false) (.int .i64 code),spIf (false = false) (.bool b),spIf (false = false) (.pointer (some ⟨X,12,none⟩)),spIf (false = false) (.bool b),spIf (false = false) (.bool false),spEq (.bool (false || false)),spEq (.bool (false || false)),spIf ((false || false) = false) (.pointer (some ⟨S,0,none⟩)),spIf ((false || false) = false) (.pointer (some ⟨X,1,none⟩)),spIf ((false || false) = false) (.agg #[.int .i64 1,.string key,.string oth,.int .i64 ln,.int .i64 pr,.int .i64 bk,.slice A n n,.int .i64 idle,.int .i64 hard,.int .u64 ck,.bool tl]),spIf ((false || false) = false) (.int .i64 code),spIf ((false || false) = false) (.bool (!b)),spIf ((false || false) = false) (.pointer (some ⟨X,12,none⟩)),spIf ((false || false) = false) (.bool b),spIf ((false || false) = false) (.bool false),spEq (.bool ((false || false) || false))] (by decide) (by kernel_rfl) (by kernel_rfl) (by kernel_rfl) (by decide +kernel) (by rw [zs]; decide +kernel) (.cons (spEq_free _) (.cons (spEq_free _) (.cons (spEq_free _) (.cons (spIf_free _ _) (.cons (spIf_free _ _) (.cons (spIf_free _ _) (.cons (spIf_free _ _) (.cons (spIf_free _ _) (.cons (spIf_free _ _) (.cons (spIf_free _ _) (.cons (spIf_free _ _) (.cons (spEq_free _) (.cons (spEq_free _) (.cons (spIf_free _ _) (.cons (spIf_free _ _) (.cons (spIf_free _ _) (.cons (spIf_free _ _) (.cons (spIf_free _ _) (.cons (spIf_free _ _) (.cons (spIf_free _ _) (.cons (spIf_free _ _) (.cons (spEq_free _) (.nil))))))))))))))))))))))) (fun _ _ k g => k.quiet g) (fun _ _ k g => k.quiet g) K3 (show ∀ i,i < 22 → _ from below_step (n:=21) ?_ (below_step (n:=20) ?_ (below_step (n:=19) ?_ (below_step (n:=18) ?_ (below_step (n:=17) ?_ (below_step (n:=16) ?_ (below_step (n:=15) ?_ (below_step (n:=14) ?_ (below_step (n:=13) ?_ (below_step (n:=12) ?_ (below_step (n:=11) ?_ (below_step (n:=10) ?_ (below_step (n:=9) ?_ (below_step (n:=8) ?_ (below_step (n:=7) ?_ (below_step (n:=6) ?_ (below_step (n:=5) ?_ (below_step (n:=4) ?_ (below_step (n:=3) ?_ (below_step (n:=2) ?_ (below_step (n:=1) ?_ (below_step (n:=0) ?_ (below_nil))))))))))))))))))))))) ?_
     ·
      intro a W' g hr hp
      refine ⟨fun e => absurd e (by decide),fun _ => ?_⟩
      show SpecDo _ _ _ 21 111 (spEq (.bool ((false || false) || false))) a W'
      refine spec_plain (o:=_) rfl rfl ?_
      have y102:a.eval (.tmp 102) = .bool (false || false):=hp 12 (by rfl)
      exact wp_yield rfl (exec_pick rfl y102 (fun h => or_yes h) (fun h => ((show (false || false) = false → a.eval (.tmp 110) = .bool false from hp 20 (by rfl)) h).trans (or_no h))) (Wider.refl _) rfl
     ·
      intro a W' g hr hp
      refine ⟨fun e => absurd e (by decide),fun _ => ?_⟩
      show SpecDo _ _ _ 20 110 (spIf ((false || false) = false) (.bool false)) a W'
      have yg:a.eval (.tmp 102) = .bool (false || false):=hp 12 (by rfl)
      refine spec_guard (o:=_) (og:=_) (c:=false) rfl rfl rfl rfl yg rfl (fun n h => absurd h n) (fun h => ?_)
      have y107:=(show (false || false) = false → a.eval (.tmp 107) = .bool (!b) from hp 17 (by rfl)) h
      have y109:=(show (false || false) = false → a.eval (.tmp 109) = .bool b from hp 19 (by rfl)) h
      replace y107:=evalD y107
      replace y109:=evalD y109
      refine wp_k (a':=a.put (some 110) (.bool false)) (w':=W') ⟨_,rfl,Wider.refl _,fun _ => rfl⟩ ?_
      intro K' hK'
      rcases hcb with ⟨rfl,rfl⟩ | ⟨rfl,rfl⟩ <;> (go_simp; exact hK')
     ·
      intro a W' g hr hp
      refine ⟨fun e => absurd e (by decide),fun _ => ?_⟩
      show SpecDo _ _ _ 19 109 (spIf ((false || false) = false) (.bool b)) a W'
      have yg:a.eval (.tmp 102) = .bool (false || false):=hp 12 (by rfl)
      refine spec_guard (o:=_) (og:=_) (c:=false) rfl rfl rfl rfl yg rfl (fun n h => absurd h n) (fun h => ?_)
      have y108:=(show (false || false) = false → a.eval (.tmp 108) = .pointer (some ⟨X,12,none⟩) from hp 18 (by rfl)) h
      have x12:=blk_cell (hXB W' g) 12 (v:=.bool b) rfl
      replace y108:=evalD y108
      refine wp_k (a':=a.put (some 109) (.bool b)) (w':=W') ⟨_,rfl,Wider.refl _,fun _ => rfl⟩ ?_
      intro K' hK'
      go_simp
      exact hK'
     ·
      intro a W' g hr hp
      refine ⟨fun e => absurd e (by decide),fun _ => ?_⟩
      show SpecDo _ _ _ 18 108 (spIf ((false || false) = false) (.pointer (some ⟨X,12,none⟩))) a W'
      have yg:a.eval (.tmp 102) = .bool (false || false):=hp 12 (by rfl)
      refine spec_guard (o:=_) (og:=_) (c:=false) rfl rfl rfl rfl yg rfl (fun n h => absurd h n) (fun h => ?_)
      have y2:a.eval (.tmp 2) = .pointer (some ⟨X,0,none⟩):=(hr 2 (by decide)).trans z2
      replace y2:=evalD y2
      refine wp_k (a':=a.put (some 108) (.pointer (some ⟨X,12,none⟩))) (w':=W') ⟨_,rfl,Wider.refl _,fun _ => rfl⟩ ?_
      intro K' hK'
      go_simp
      exact hK'
     ·
      intro a W' g hr hp
      refine ⟨fun e => absurd e (by decide),fun _ => ?_⟩
      show SpecDo _ _ _ 17 107 (spIf ((false || false) = false) (.bool (!b))) a W'
      have yg:a.eval (.tmp 102) = .bool (false || false):=hp 12 (by rfl)
      refine spec_guard (o:=_) (og:=_) (c:=false) rfl rfl rfl rfl yg rfl (fun n h => absurd h n) (fun h => ?_)
      have y106:=(show (false || false) = false → a.eval (.tmp 106) = .int .i64 code from hp 16 (by rfl)) h
      replace y106:=evalD y106
      refine wp_k (a':=a.put (some 107) (.bool (!b))) (w':=W') ⟨_,rfl,Wider.refl _,fun _ => rfl⟩ ?_
      intro K' hK'
      rcases hcb with ⟨rfl,rfl⟩ | ⟨rfl,rfl⟩ <;> (go_simp; exact hK')
     ·
      intro a W' g hr hp
      refine ⟨fun _ hA => ?_,fun n => absurd rfl n⟩
      have yg:a.eval (.tmp 102) = .bool false:=hp 12 (by rfl)
      have y103:=(show (false || false) = false → a.eval (.tmp 103) = .pointer (some ⟨S,0,none⟩) from hp 13 (by rfl)) (rfl:(false || false) = false)
      have y105:=(show (false || false) = false → a.eval (.tmp 105) = .agg #[.int .i64 1,.string key,.string oth,.int .i64 ln,.int .i64 pr,.int .i64 bk,.slice A n n,.int .i64 idle,.int .i64 hard,.int .u64 ck,.bool tl] from hp 15 (by rfl)) (rfl:(false || false) = false)
      refine turn_guard (o:=_) (og:=_) (c:=false) rfl rfl rfl rfl yg ?_
      refine turn_asks (f:=10) rfl rfl (args3 y103 y105 rfl) (by kernel_rfl) ((zp0 W' hA).mono ?_)
      rintro e w2 ⟨rfl,hB⟩
      exact ⟨_,rfl,hB,fun _ => rfl⟩
     ·
      intro a W' g hr hp
      refine ⟨fun e => absurd e (by decide),fun _ => ?_⟩
      show SpecDo _ _ _ 15 105 (spIf ((false || false) = false) (.agg #[.int .i64 1,.string key,.string oth,.int .i64 ln,.int .i64 pr,.int .i64 bk,.slice A n n,.int .i64 idle,.int .i64 hard,.int .u64 ck,.bool tl])) a W'
      have yg:a.eval (.tmp 102) = .bool (false || false):=hp 12 (by rfl)
      refine spec_guard (o:=_) (og:=_) (c:=false) rfl rfl rfl rfl yg rfl (fun n h => absurd h n) (fun h => ?_)
      have y104:=(show (false || false) = false → a.eval (.tmp 104) = .pointer (some ⟨X,1,none⟩) from hp 14 (by rfl)) h
      have hx:=hXB W' g
      have x1:=blk_cell hx 1 (v:=.int .i64 1) rfl
      have x2:=blk_cell hx 2 (v:=.string key) rfl
      have x3:=blk_cell hx 3 (v:=.string oth) rfl
      have x4:=blk_cell hx 4 (v:=.int .i64 ln) rfl
      have x5:=blk_cell hx 5 (v:=.int .i64 pr) rfl
      have x6:=blk_cell hx 6 (v:=.int .i64 bk) rfl
      have x7:=blk_cell hx 7 (v:=.slice A n n) rfl
      have x8:=blk_cell hx 8 (v:=.int .i64 idle) rfl
      have x9:=blk_cell hx 9 (v:=.int .i64 hard) rfl
      have x10:=blk_cell hx 10 (v:=.int .u64 ck) rfl
      have x11:=blk_cell hx 11 (v:=.bool tl) rfl
      replace y104:=evalD y104
      refine wp_k (a':=a.put (some 105) (.agg #[.int .i64 1,.string key,.string oth,.int .i64 ln,.int .i64 pr,.int .i64 bk,.slice A n n,.int .i64 idle,.int .i64 hard,.int .u64 ck,.bool tl])) (w':=W') ⟨_,rfl,Wider.refl _,fun _ => rfl⟩ ?_
      intro K' hK'
      go_simp
      exact hK'
     ·
      intro a W' g hr hp
      refine ⟨fun e => absurd e (by decide),fun _ => ?_⟩
      show SpecDo _ _ _ 14 104 (spIf ((false || false) = false) (.pointer (some ⟨X,1,none⟩))) a W'
      have yg:a.eval (.tmp 102) = .bool (false || false):=hp 12 (by rfl)
      refine spec_guard (o:=_) (og:=_) (c:=false) rfl rfl rfl rfl yg rfl (fun n h => absurd h n) (fun h => ?_)
      have y2:a.eval (.tmp 2) = .pointer (some ⟨X,0,none⟩):=(hr 2 (by decide)).trans z2
      replace y2:=evalD y2
      refine wp_k (a':=a.put (some 104) (.pointer (some ⟨X,1,none⟩))) (w':=W') ⟨_,rfl,Wider.refl _,fun _ => rfl⟩ ?_
      intro K' hK'
      go_simp
      exact hK'
     ·
      intro a W' g hr hp
      refine ⟨fun e => absurd e (by decide),fun _ => ?_⟩
      show SpecDo _ _ _ 13 103 (spIf ((false || false) = false) (.pointer (some ⟨S,0,none⟩))) a W'
      have yg:a.eval (.tmp 102) = .bool (false || false):=hp 12 (by rfl)
      refine spec_guard (o:=_) (og:=_) (c:=false) rfl rfl rfl rfl yg rfl (fun n h => absurd h n) (fun h => ?_)
      have y3:a.eval (.tmp 3) = .pointer (some ⟨S,0,none⟩):=(hr 3 (by decide)).trans z3
      exact wp_yield rfl (exec_move rfl y3) (Wider.refl _) (fun _ => rfl)
     ·
      intro a W' g hr hp
      refine ⟨fun e => absurd e (by decide),fun _ => ?_⟩
      show SpecDo _ _ _ 12 102 (spEq (.bool (false || false))) a W'
      refine spec_plain (o:=_) rfl rfl ?_
      have y101:a.eval (.tmp 101) = .bool (false || false):=hp 11 (by rfl)
      exact wp_yield rfl (exec_move rfl y101) (Wider.refl _) rfl
     ·
      intro a W' g hr hp
      refine ⟨fun e => absurd e (by decide),fun _ => ?_⟩
      show SpecDo _ _ _ 11 101 (spEq (.bool (false || false))) a W'
      refine spec_plain (o:=_) rfl rfl ?_
      have y92:a.eval (.tmp 92) = .bool false:=hp 2 (by rfl)
      exact wp_yield rfl (exec_pick rfl y92 (fun h => or_yes h) (fun h => ((show false = false → a.eval (.tmp 100) = .bool false from hp 10 (by rfl)) h).trans (or_no h))) (Wider.refl _) rfl
     ·
      intro a W' g hr hp
      refine ⟨fun e => absurd e (by decide),fun _ => ?_⟩
      show SpecDo _ _ _ 10 100 (spIf (false = false) (.bool false)) a W'
      have yg:a.eval (.tmp 92) = .bool false:=hp 2 (by rfl)
      refine spec_guard (o:=_) (og:=_) (c:=false) rfl rfl rfl rfl yg rfl (fun n h => absurd h n) (fun h => ?_)
      have y97:=(show false = false → a.eval (.tmp 97) = .bool b from hp 7 (by rfl)) h
      have y99:=(show false = false → a.eval (.tmp 99) = .bool b from hp 9 (by rfl)) h
      replace y97:=evalD y97
      replace y99:=evalD y99
      refine wp_k (a':=a.put (some 100) (.bool false)) (w':=W') ⟨_,rfl,Wider.refl _,fun _ => rfl⟩ ?_
      intro K' hK'
      rcases hcb with ⟨rfl,rfl⟩ | ⟨rfl,rfl⟩ <;> (go_simp; exact hK')
     ·
      intro a W' g hr hp
      refine ⟨fun e => absurd e (by decide),fun _ => ?_⟩
      show SpecDo _ _ _ 9 99 (spIf (false = false) (.bool b)) a W'
      have yg:a.eval (.tmp 92) = .bool false:=hp 2 (by rfl)
      refine spec_guard (o:=_) (og:=_) (c:=false) rfl rfl rfl rfl yg rfl (fun n h => absurd h n) (fun h => ?_)
      have y98:=(show false = false → a.eval (.tmp 98) = .pointer (some ⟨X,12,none⟩) from hp 8 (by rfl)) h
      have x12:=blk_cell (hXB W' g) 12 (v:=.bool b) rfl
      replace y98:=evalD y98
      refine wp_k (a':=a.put (some 99) (.bool b)) (w':=W') ⟨_,rfl,Wider.refl _,fun _ => rfl⟩ ?_
      intro K' hK'
      go_simp
      exact hK'
     ·
      intro a W' g hr hp
      refine ⟨fun e => absurd e (by decide),fun _ => ?_⟩
      show SpecDo _ _ _ 8 98 (spIf (false = false) (.pointer (some ⟨X,12,none⟩))) a W'
      have yg:a.eval (.tmp 92) = .bool false:=hp 2 (by rfl)
      refine spec_guard (o:=_) (og:=_) (c:=false) rfl rfl rfl rfl yg rfl (fun n h => absurd h n) (fun h => ?_)
      have y2:a.eval (.tmp 2) = .pointer (some ⟨X,0,none⟩):=(hr 2 (by decide)).trans z2
      replace y2:=evalD y2
      refine wp_k (a':=a.put (some 98) (.pointer (some ⟨X,12,none⟩))) (w':=W') ⟨_,rfl,Wider.refl _,fun _ => rfl⟩ ?_
      intro K' hK'
      go_simp
      exact hK'
     ·
      intro a W' g hr hp
      refine ⟨fun e => absurd e (by decide),fun _ => ?_⟩
      show SpecDo _ _ _ 7 97 (spIf (false = false) (.bool b)) a W'
      have yg:a.eval (.tmp 92) = .bool false:=hp 2 (by rfl)
      refine spec_guard (o:=_) (og:=_) (c:=false) rfl rfl rfl rfl yg rfl (fun n h => absurd h n) (fun h => ?_)
      have y96:=(show false = false → a.eval (.tmp 96) = .int .i64 code from hp 6 (by rfl)) h
      replace y96:=evalD y96
      refine wp_k (a':=a.put (some 97) (.bool b)) (w':=W') ⟨_,rfl,Wider.refl _,fun _ => rfl⟩ ?_
      intro K' hK'
      rcases hcb with ⟨rfl,rfl⟩ | ⟨rfl,rfl⟩ <;> (go_simp; exact hK')
     ·
      intro a W' g hr hp
      refine ⟨fun e => absurd e (by decide),fun _ => ?_⟩
      show SpecDo _ _ _ 6 96 (spIf (false = false) (.int .i64 code)) a W'
      have yg:a.eval (.tmp 92) = .bool false:=hp 2 (by rfl)
      refine spec_guard (o:=_) (og:=_) (c:=false) rfl rfl rfl rfl yg rfl (fun n h => absurd h n) (fun h => ?_)
      have y93:=(show false = false → a.eval (.tmp 93) = .pointer (some ⟨S,0,none⟩) from hp 3 (by rfl)) h
      have y95:=(show false = false → a.eval (.tmp 95) = .agg #[.int .i64 1,.string key,.string oth,.int .i64 ln,.int .i64 pr,.int .i64 bk,.slice A n n,.int .i64 idle,.int .i64 hard,.int .u64 ck,.bool tl] from hp 5 (by rfl)) h
      refine wp_asks (f:=9) rfl rfl (args2 y93 y95) (by kernel_rfl) ((zm W' g).mono ?_)
      rintro e w2 ⟨rfl,g2⟩
      exact ⟨_,rfl,g2,fun _ => rfl⟩
     ·
      intro a W' g hr hp
      refine ⟨fun e => absurd e (by decide),fun _ => ?_⟩
      show SpecDo _ _ _ 5 95 (spIf (false = false) (.agg #[.int .i64 1,.string key,.string oth,.int .i64 ln,.int .i64 pr,.int .i64 bk,.slice A n n,.int .i64 idle,.int .i64 hard,.int .u64 ck,.bool tl])) a W'
      have yg:a.eval (.tmp 92) = .bool false:=hp 2 (by rfl)
      refine spec_guard (o:=_) (og:=_) (c:=false) rfl rfl rfl rfl yg rfl (fun n h => absurd h n) (fun h => ?_)
      have y94:=(show false = false → a.eval (.tmp 94) = .pointer (some ⟨X,1,none⟩) from hp 4 (by rfl)) h
      have hx:=hXB W' g
      have x1:=blk_cell hx 1 (v:=.int .i64 1) rfl
      have x2:=blk_cell hx 2 (v:=.string key) rfl
      have x3:=blk_cell hx 3 (v:=.string oth) rfl
      have x4:=blk_cell hx 4 (v:=.int .i64 ln) rfl
      have x5:=blk_cell hx 5 (v:=.int .i64 pr) rfl
      have x6:=blk_cell hx 6 (v:=.int .i64 bk) rfl
      have x7:=blk_cell hx 7 (v:=.slice A n n) rfl
      have x8:=blk_cell hx 8 (v:=.int .i64 idle) rfl
      have x9:=blk_cell hx 9 (v:=.int .i64 hard) rfl
      have x10:=blk_cell hx 10 (v:=.int .u64 ck) rfl
      have x11:=blk_cell hx 11 (v:=.bool tl) rfl
      replace y94:=evalD y94
      refine wp_k (a':=a.put (some 95) (.agg #[.int .i64 1,.string key,.string oth,.int .i64 ln,.int .i64 pr,.int .i64 bk,.slice A n n,.int .i64 idle,.int .i64 hard,.int .u64 ck,.bool tl])) (w':=W') ⟨_,rfl,Wider.refl _,fun _ => rfl⟩ ?_
      intro K' hK'
      go_simp
      exact hK'
     ·
      intro a W' g hr hp
      refine ⟨fun e => absurd e (by decide),fun _ => ?_⟩
      show SpecDo _ _ _ 4 94 (spIf (false = false) (.pointer (some ⟨X,1,none⟩))) a W'
      have yg:a.eval (.tmp 92) = .bool false:=hp 2 (by rfl)
      refine spec_guard (o:=_) (og:=_) (c:=false) rfl rfl rfl rfl yg rfl (fun n h => absurd h n) (fun h => ?_)
      have y2:a.eval (.tmp 2) = .pointer (some ⟨X,0,none⟩):=(hr 2 (by decide)).trans z2
      replace y2:=evalD y2
      refine wp_k (a':=a.put (some 94) (.pointer (some ⟨X,1,none⟩))) (w':=W') ⟨_,rfl,Wider.refl _,fun _ => rfl⟩ ?_
      intro K' hK'
      go_simp
      exact hK'
     ·
      intro a W' g hr hp
      refine ⟨fun e => absurd e (by decide),fun _ => ?_⟩
      show SpecDo _ _ _ 3 93 (spIf (false = false) (.pointer (some ⟨S,0,none⟩))) a W'
      have yg:a.eval (.tmp 92) = .bool false:=hp 2 (by rfl)
      refine spec_guard (o:=_) (og:=_) (c:=false) rfl rfl rfl rfl yg rfl (fun n h => absurd h n) (fun h => ?_)
      have y3:a.eval (.tmp 3) = .pointer (some ⟨S,0,none⟩):=(hr 3 (by decide)).trans z3
      exact wp_yield rfl (exec_move rfl y3) (Wider.refl _) (fun _ => rfl)
     ·
      intro a W' g hr hp
      refine ⟨fun e => absurd e (by decide),fun _ => ?_⟩
      show SpecDo _ _ _ 2 92 (spEq (.bool false)) a W'
      refine spec_plain (o:=_) rfl rfl ?_
      have y91:a.eval (.tmp 91) = .bool false:=hp 1 (by rfl)
      exact wp_yield rfl (exec_move rfl y91) (Wider.refl _) rfl
     ·
      intro a W' g hr hp
      refine ⟨fun e => absurd e (by decide),fun _ => ?_⟩
      show SpecDo _ _ _ 1 91 (spEq (.bool false)) a W'
      refine spec_plain (o:=_) rfl rfl ?_
      have y90:a.eval (.tmp 90) = .pointer (some ⟨S,0,none⟩):=hp 0 (by rfl)
      replace y90:=evalD y90
      refine wp_k (a':=a.put (some 91) (.bool false)) (w':=W') ⟨_,rfl,Wider.refl _,rfl⟩ ?_
      intro K' hK'
      go_simp
      exact hK'
     ·
      intro a W' g hr hp
      refine ⟨fun e => absurd e (by decide),fun _ => ?_⟩
      show SpecDo _ _ _ 0 90 (spEq (.pointer (some ⟨S,0,none⟩))) a W'
      refine spec_plain (o:=_) rfl rfl ?_
      have y3:a.eval (.tmp 3) = .pointer (some ⟨S,0,none⟩):=(hr 3 (by decide)).trans z3
      exact wp_yield rfl (exec_move rfl y3) (Wider.refl _) rfl
     ·
      intro a W' hB hsz hdf hrr hv
      have e90:a.eval (.tmp 90) = .pointer (some ⟨S,0,none⟩):=hv 0 (by decide)
      have e91:a.eval (.tmp 91) = .bool false:=hv 1 (by decide)
      have e92:a.eval (.tmp 92) = .bool false:=hv 2 (by decide)
      have e93:a.eval (.tmp 93) = .pointer (some ⟨S,0,none⟩):=hv 3 (by decide) rfl
      have e94:a.eval (.tmp 94) = .pointer (some ⟨X,1,none⟩):=hv 4 (by decide) rfl
      have e95:a.eval (.tmp 95) = .agg #[.int .i64 1,.string key,.string oth,.int .i64 ln,.int .i64 pr,.int .i64 bk,.slice A n n,.int .i64 idle,.int .i64 hard,.int .u64 ck,.bool tl]:=hv 5 (by decide) rfl
      have e96:a.eval (.tmp 96) = .int .i64 code:=hv 6 (by decide) rfl
      have e97:a.eval (.tmp 97) = .bool b:=hv 7 (by decide) rfl
      have e98:a.eval (.tmp 98) = .pointer (some ⟨X,12,none⟩):=hv 8 (by decide) rfl
      have e99:a.eval (.tmp 99) = .bool b:=hv 9 (by decide) rfl
      have e100:a.eval (.tmp 100) = .bool false:=hv 10 (by decide) rfl
      have e101:a.eval (.tmp 101) = .bool false:=hv 11 (by decide)
      have e102:a.eval (.tmp 102) = .bool false:=hv 12 (by decide)
      have e103:a.eval (.tmp 103) = .pointer (some ⟨S,0,none⟩):=hv 13 (by decide) rfl
      have e104:a.eval (.tmp 104) = .pointer (some ⟨X,1,none⟩):=hv 14 (by decide) rfl
      have e105:a.eval (.tmp 105) = .agg #[.int .i64 1,.string key,.string oth,.int .i64 ln,.int .i64 pr,.int .i64 bk,.slice A n n,.int .i64 idle,.int .i64 hard,.int .u64 ck,.bool tl]:=hv 15 (by decide) rfl
      have e106:a.eval (.tmp 106) = .int .i64 code:=hv 16 (by decide) rfl
      have e107:a.eval (.tmp 107) = .bool (!b):=hv 17 (by decide) rfl
      have e108:a.eval (.tmp 108) = .pointer (some ⟨X,12,none⟩):=hv 18 (by decide) rfl
      have e109:a.eval (.tmp 109) = .bool b:=hv 19 (by decide) rfl
      have e110:a.eval (.tmp 110) = .bool false:=hv 20 (by decide) rfl
      have e111:a.eval (.tmp 111) = .bool false:=hv 21 (by decide)
      have sl:SlotsAt a 90 [.pointer (some ⟨S,0,none⟩),.bool false,.bool false,.pointer (some ⟨S,0,none⟩),.pointer (some ⟨X,1,none⟩),.agg #[.int .i64 1,.string key,.string oth,.int .i64 ln,.int .i64 pr,.int .i64 bk,.slice A n n,.int .i64 idle,.int .i64 hard,.int .u64 ck,.bool tl],.int .i64 code,.bool b,.pointer (some ⟨X,12,none⟩),.bool b,.bool false,.bool false,.bool false,.pointer (some ⟨S,0,none⟩),.pointer (some ⟨X,1,none⟩),.agg #[.int .i64 1,.string key,.string oth,.int .i64 ln,.int .i64 pr,.int .i64 bk,.slice A n n,.int .i64 idle,.int .i64 hard,.int .u64 ck,.bool tl],.int .i64 code,.bool (!b),.pointer (some ⟨X,12,none⟩),.bool b,.bool false,.bool false]:=.cons e90 (.cons e91 (.cons e92 (.cons e93 (.cons e94 (.cons e95 (.cons e96 (.cons e97 (.cons e98 (.cons e99 (.cons e100 (.cons e101 (.cons e102 (.cons e103 (.cons e104 (.cons e105 (.cons e106 (.cons e107 (.cons e108 (.cons e109 (.cons e110 (.cons e111 (.nil))))))))))))))))))))))
      have fr:=(show RestAt [90,91,92,93,94,95,96,97,98,99,100,101,102,103,104,105,106,107,108,109,110,111] a0 a from ⟨hsz,hdf,hrr⟩).frameT (p:=90) HA0.out (fun d hd => by
       have q:90 ≤ d ∧ d < 112:=of_decide_eq_true (List.all_eq_true.1 (show ([90,91,92,93,94,95,96,97,98,99,100,101,102,103,104,105,106,107,108,109,110,111].all fun d => decide (90 ≤ d ∧ d < 112)) = true from rfl) d hd)
       exact q) sl (show 112 ≤ 254 by decide)
      simp only [List.take_succ_cons,List.take_zero,List.drop_succ_cons,List.drop_zero,List.cons_append,List.nil_append,List.length_cons,List.length_nil,Nat.zero_add,Nat.reduceAdd] at fr
      rw [fr]
      clear fr sl hv hrr hsz hdf HA0 zs z2 z3 zd zm zp0 hXB e90 e91 e92 e93 e94 e95 e96 e97 e98 e99 e100 e101 e102 e103 e104 e105 e106 e107 e108 e109 e110 e111
      have hx:=hB.rest.holds (blkT X #[.int .u8 k,.int .i64 1,.string key,.string oth,.int .i64 ln,.int .i64 pr,.int .i64 bk,.slice A n n,.int .i64 idle,.int .i64 hard,.int .u64 ck,.bool tl,.bool b] 27) (.head _)
      have d1:=blk_cell hx 1 (v:=.int .i64 1) rfl
      have f1:=blk_free hx 1
      have hB2:=hB.store 1 (.int .i64 2)
      clear hx hB
      go_upto_region 11 with (fail)
      have K6:StoreIs w (W'.setCell ⟨X,1,none⟩ (.int .i64 2)) [blkT X #[.int .u8 k,.int .i64 2,.string key,.string oth,.int .i64 ln,.int .i64 pr,.int .i64 bk,.slice A n n,.int .i64 idle,.int .i64 hard,.int .u64 ck,.bool tl,.bool b] 27,blkT R CY 27,blkT Z #[.int .u64 0,.int .u64 0,.int .u64 0,.int .u64 0,.int .u64 0] 24] S s1:=hB2
      obtain ⟨W6,hW6⟩ : ∃ W,W'.setCell ⟨X,1,none⟩ (.int .i64 2) = W:=⟨_,rfl⟩
      rw [hW6] at K6
      try rw [hW6]
      clear hB2 d1 f1 hW6
      have hx:=K6.rest.holds (blkT X #[.int .u8 k,.int .i64 2,.string key,.string oth,.int .i64 ln,.int .i64 pr,.int .i64 bk,.slice A n n,.int .i64 idle,.int .i64 hard,.int .u64 ck,.bool tl,.bool b] 27) (.head _)
      have x1:=blk_cell hx 1 (v:=.int .i64 2) rfl
      have x2:=blk_cell hx 2 (v:=.string key) rfl
      have x3:=blk_cell hx 3 (v:=.string oth) rfl
      have x4:=blk_cell hx 4 (v:=.int .i64 ln) rfl
      have x5:=blk_cell hx 5 (v:=.int .i64 pr) rfl
      have x6:=blk_cell hx 6 (v:=.int .i64 bk) rfl
      have x7:=blk_cell hx 7 (v:=.slice A n n) rfl
      have x8:=blk_cell hx 8 (v:=.int .i64 idle) rfl
      have x9:=blk_cell hx 9 (v:=.int .i64 hard) rfl
      have x10:=blk_cell hx 10 (v:=.int .u64 ck) rfl
      have x11:=blk_cell hx 11 (v:=.bool tl) rfl
      have zm2:=ymay_c K6 (x:=⟨2,key,oth,ln,pr,bk,args,idle,hard,ck,tl⟩) (av:=.slice A n n) (argsY K6.rest (.tail _ (.tail _ (.head _))) HAR.out) HO2.out
      rw [mayT_two HS1.out rfl] at zm2
      have zm2:Calls Tryz.prog 9 #[.pointer (some ⟨S,0,none⟩),.agg #[.int .i64 2,.string key,.string oth,.int .i64 ln,.int .i64 pr,.int .i64 bk,.slice A n n,.int .i64 idle,.int .i64 hard,.int .u64 ck,.bool tl]] W6 fun e w' => e = .returned (.int .i64 3) ∧ Wider W6 w':=zm2
      clear hx
      go_wp2_with (first
       | (go_at_call 9; ((with_reducible refine zm2.mono ?_); rintro e w9 ⟨rfl,g⟩; have K7:=K6.quiet g; clear zm2 K6 x1 x2 x3 x4 x5 x6 x7 x8 x9 x10 x11)))
      have K8:=K7.rest.drop
      clear K7
      go_roundw
      case rel => exact ⟨i + 1,by omega,by go_num,K8⟩
      case measure => simp [intOf]; omega
   · obtain rfl:i = 26:=by omega
     have q1:¬ (26:Int) < 26:=by omega
     have H1:=((Own.nil H.wider).blk #[.int .i64 5] 3).blk #[.int .i64 1,.int .u8 1,.slice (some ⟨wr.heap.size,0,none⟩) 1 1,.int .i64 1,.int .i64 0] 36
     have ez:(wr.alloc (.cells #[.int .i64 5] 3)).heap.size = wr.heap.size + 1:=by simp
     rw [ez] at H1
     clear H
     go_upto_region 15 with (fail)
     obtain ⟨W4,hW4⟩ : ∃ W,(wr.alloc (.cells #[.int .i64 5] 3)).alloc (.cells #[.int .i64 1,.int .u8 1,.slice (some ⟨wr.heap.size,0,none⟩) 1 1,.int .i64 1,.int .i64 0] 36) = W:=⟨_,rfl⟩
     rw [hW4] at H1 ⊢
     obtain ⟨G,hG⟩ : ∃ G,wr.heap.size + 1 = G:=⟨_,rfl⟩
     rw [hG] at H1 ⊢
     obtain ⟨GB,hGB⟩ : ∃ B,wr.heap.size = B:=⟨_,rfl⟩
     rw [hGB] at H1 ⊢
     clear ez hW4 hG hGB
     go_wp2
     go_loopw [5,6,7,8,9] (fun a _ _ _ _ wi => ∃ j:Nat,j ≤ 9 ∧ a = .int .i64 (j:Int) ∧ Own w wi [blkT G #[.int .i64 1,.int .u8 1,.slice (some ⟨GB,0,none⟩) 1 1,.int .i64 1,.int .i64 0] 36,blkT GB #[.int .i64 5] 3]) (fun a _ _ _ _ _ => 9 - (intOf a).toNat)
     case atStart => exact ⟨0,Nat.zero_le _,rfl,H1⟩
     case round =>
      clear H1
      obtain ⟨j,hj,rfl,H⟩:=hrel
      by_cases cj:j < 9
      · as_aux_lemma =>
        have e0:=blk_cell H.head 0 (v:=.int .i64 1) rfl
        have e1:=blk_cell H.head 1 (v:=.int .u8 1) rfl
        have e2:=blk_cell H.head 2 (v:=.slice (some ⟨GB,0,none⟩) 1 1) rfl
        have e3:=blk_cell H.head 3 (v:=.int .i64 1) rfl
        have e4:=blk_cell H.head 4 (v:=.int .i64 0) rfl
        rcases (by omega:j = 0 ∨ j = 1 ∨ j = 2 ∨ j = 3 ∨ j = 4 ∨ j = 5 ∨ j = 6 ∨ j = 7 ∨ j = 8) with rfl | rfl | rfl | rfl | rfl | rfl | rfl | rfl | rfl
        · go_upto_region 37 with (fail)
          have H3:=(H.blk #[.int .i64 1] 3).blk #[.int .i64 0,.int .u8 1,.slice (some ⟨GB,0,none⟩) 1 1,.int .i64 1,.int .i64 0] 36
          have ez:(wr.alloc (.cells #[.int .i64 1] 3)).heap.size = wr.heap.size + 1:=by simp
          rw [ez] at H3
          obtain ⟨W5,hW5⟩ : ∃ W,(wr.alloc (.cells #[.int .i64 1] 3)).alloc (.cells #[.int .i64 0,.int .u8 1,.slice (some ⟨GB,0,none⟩) 1 1,.int .i64 1,.int .i64 0] 36) = W:=⟨_,rfl⟩
          rw [hW5] at H3 ⊢
          obtain ⟨T,hT⟩ : ∃ T,wr.heap.size + 1 = T:=⟨_,rfl⟩
          rw [hT] at H3 ⊢
          obtain ⟨Y,hY⟩ : ∃ Y,wr.heap.size = Y:=⟨_,rfl⟩
          rw [hY] at H3 ⊢
          have x0:=blk_cell H3.head 0 (v:=.int .i64 0) rfl
          have x1:=blk_cell H3.head 1 (v:=.int .u8 1) rfl
          have x2:=blk_cell H3.head 2 (v:=.slice (some ⟨GB,0,none⟩) 1 1) rfl
          have x3:=blk_cell H3.head 3 (v:=.int .i64 1) rfl
          have x4:=blk_cell H3.head 4 (v:=.int .i64 0) rfl
          have zn:=newbad_c H3 (n:=1) (.tail _ (.tail _ (.tail _ (.head _)))) 0 1 1 0 (zs:=[1]) (.tail _ (.head _)) rfl (by decide) (by decide)
          have zm:=fun (W:World) (g:Wider W5 W) => maybad_c (H3.quiet g) (n:=1) (.tail _ (.tail _ (.tail _ (.head _)))) 0 1 1 0 (zs:=[1]) (.tail _ (.head _)) rfl (by decide) (r:=false) (by decide)
          clear e0 e1 e2 e3 e4 H ez hW5
          go_wp2_with (first
           | (go_at_call 11; ((with_reducible refine zn.mono ?_); rintro e w5 ⟨rfl,g⟩; have K5:=H3.quiet g; clear zn x0 x1 x2 x3 x4; have x0:=blk_cell K5.head 0 (v:=.int .i64 0) rfl; have x1:=blk_cell K5.head 1 (v:=.int .u8 1) rfl; have x2:=blk_cell K5.head 2 (v:=.slice (some ⟨GB,0,none⟩) 1 1) rfl; have x3:=blk_cell K5.head 3 (v:=.int .i64 1) rfl; have x4:=blk_cell K5.head 4 (v:=.int .i64 0) rfl; have zm1:=zm _ g))
           | (go_at_call 12; ((with_reducible refine zm1.mono ?_); rintro e w6 ⟨rfl,g6⟩; have K6:=K5.quiet g6; clear zm1 zm)))
          have K7:=K6.drop.drop
          go_roundw
          case rel => exact ⟨1,by decide,by go_num,K7⟩
          case measure => simp [intOf]
        · go_upto_region 37 with (fail)
          have H3:=(H.blk #[.int .i64 1] 3).blk #[.int .i64 65535,.int .u8 1,.slice (some ⟨GB,0,none⟩) 1 1,.int .i64 1,.int .i64 0] 36
          have ez:(wr.alloc (.cells #[.int .i64 1] 3)).heap.size = wr.heap.size + 1:=by simp
          rw [ez] at H3
          obtain ⟨W5,hW5⟩ : ∃ W,(wr.alloc (.cells #[.int .i64 1] 3)).alloc (.cells #[.int .i64 65535,.int .u8 1,.slice (some ⟨GB,0,none⟩) 1 1,.int .i64 1,.int .i64 0] 36) = W:=⟨_,rfl⟩
          rw [hW5] at H3 ⊢
          obtain ⟨T,hT⟩ : ∃ T,wr.heap.size + 1 = T:=⟨_,rfl⟩
          rw [hT] at H3 ⊢
          obtain ⟨Y,hY⟩ : ∃ Y,wr.heap.size = Y:=⟨_,rfl⟩
          rw [hY] at H3 ⊢
          have x0:=blk_cell H3.head 0 (v:=.int .i64 65535) rfl
          have x1:=blk_cell H3.head 1 (v:=.int .u8 1) rfl
          have x2:=blk_cell H3.head 2 (v:=.slice (some ⟨GB,0,none⟩) 1 1) rfl
          have x3:=blk_cell H3.head 3 (v:=.int .i64 1) rfl
          have x4:=blk_cell H3.head 4 (v:=.int .i64 0) rfl
          have zn:=newbad_c H3 (n:=1) (.tail _ (.tail _ (.tail _ (.head _)))) 65535 1 1 0 (zs:=[1]) (.tail _ (.head _)) rfl (by decide) (by decide)
          have zm:=fun (W:World) (g:Wider W5 W) => maybad_c (H3.quiet g) (n:=1) (.tail _ (.tail _ (.tail _ (.head _)))) 65535 1 1 0 (zs:=[1]) (.tail _ (.head _)) rfl (by decide) (r:=false) (by decide)
          clear e0 e1 e2 e3 e4 H ez hW5
          go_wp2_with (first
           | (go_at_call 11; ((with_reducible refine zn.mono ?_); rintro e w5 ⟨rfl,g⟩; have K5:=H3.quiet g; clear zn x0 x1 x2 x3 x4; have x0:=blk_cell K5.head 0 (v:=.int .i64 65535) rfl; have x1:=blk_cell K5.head 1 (v:=.int .u8 1) rfl; have x2:=blk_cell K5.head 2 (v:=.slice (some ⟨GB,0,none⟩) 1 1) rfl; have x3:=blk_cell K5.head 3 (v:=.int .i64 1) rfl; have x4:=blk_cell K5.head 4 (v:=.int .i64 0) rfl; have zm1:=zm _ g))
           | (go_at_call 12; ((with_reducible refine zm1.mono ?_); rintro e w6 ⟨rfl,g6⟩; have K6:=K5.quiet g6; clear zm1 zm)))
          have K7:=K6.drop.drop
          go_roundw
          case rel => exact ⟨2,by decide,by go_num,K7⟩
          case measure => simp [intOf]
        · go_upto_region 37 with (fail)
          have H3:=(H.blk #[.int .i64 1] 3).blk #[.int .i64 1,.int .u8 5,.slice (some ⟨GB,0,none⟩) 1 1,.int .i64 1,.int .i64 0] 36
          have ez:(wr.alloc (.cells #[.int .i64 1] 3)).heap.size = wr.heap.size + 1:=by simp
          rw [ez] at H3
          obtain ⟨W5,hW5⟩ : ∃ W,(wr.alloc (.cells #[.int .i64 1] 3)).alloc (.cells #[.int .i64 1,.int .u8 5,.slice (some ⟨GB,0,none⟩) 1 1,.int .i64 1,.int .i64 0] 36) = W:=⟨_,rfl⟩
          rw [hW5] at H3 ⊢
          obtain ⟨T,hT⟩ : ∃ T,wr.heap.size + 1 = T:=⟨_,rfl⟩
          rw [hT] at H3 ⊢
          obtain ⟨Y,hY⟩ : ∃ Y,wr.heap.size = Y:=⟨_,rfl⟩
          rw [hY] at H3 ⊢
          have x0:=blk_cell H3.head 0 (v:=.int .i64 1) rfl
          have x1:=blk_cell H3.head 1 (v:=.int .u8 5) rfl
          have x2:=blk_cell H3.head 2 (v:=.slice (some ⟨GB,0,none⟩) 1 1) rfl
          have x3:=blk_cell H3.head 3 (v:=.int .i64 1) rfl
          have x4:=blk_cell H3.head 4 (v:=.int .i64 0) rfl
          have zn:=newbad_c H3 (n:=1) (.tail _ (.tail _ (.tail _ (.head _)))) 1 5 1 0 (zs:=[1]) (.tail _ (.head _)) rfl (by decide) (by decide)
          have zm:=fun (W:World) (g:Wider W5 W) => maybad_c (H3.quiet g) (n:=1) (.tail _ (.tail _ (.tail _ (.head _)))) 1 5 1 0 (zs:=[1]) (.tail _ (.head _)) rfl (by decide) (r:=false) (by decide)
          clear e0 e1 e2 e3 e4 H ez hW5
          go_wp2_with (first
           | (go_at_call 11; ((with_reducible refine zn.mono ?_); rintro e w5 ⟨rfl,g⟩; have K5:=H3.quiet g; clear zn x0 x1 x2 x3 x4; have x0:=blk_cell K5.head 0 (v:=.int .i64 1) rfl; have x1:=blk_cell K5.head 1 (v:=.int .u8 5) rfl; have x2:=blk_cell K5.head 2 (v:=.slice (some ⟨GB,0,none⟩) 1 1) rfl; have x3:=blk_cell K5.head 3 (v:=.int .i64 1) rfl; have x4:=blk_cell K5.head 4 (v:=.int .i64 0) rfl; have zm1:=zm _ g))
           | (go_at_call 12; ((with_reducible refine zm1.mono ?_); rintro e w6 ⟨rfl,g6⟩; have K6:=K5.quiet g6; clear zm1 zm)))
          have K7:=K6.drop.drop
          go_roundw
          case rel => exact ⟨3,by decide,by go_num,K7⟩
          case measure => simp [intOf]
        · go_upto_region 37 with (fail)
          have H3:=(H.blk #[.int .i64 1] 3).blk #[.int .i64 1,.int .u8 0,.slice (some ⟨GB,0,none⟩) 1 1,.int .i64 1,.int .i64 0] 36
          have ez:(wr.alloc (.cells #[.int .i64 1] 3)).heap.size = wr.heap.size + 1:=by simp
          rw [ez] at H3
          obtain ⟨W5,hW5⟩ : ∃ W,(wr.alloc (.cells #[.int .i64 1] 3)).alloc (.cells #[.int .i64 1,.int .u8 0,.slice (some ⟨GB,0,none⟩) 1 1,.int .i64 1,.int .i64 0] 36) = W:=⟨_,rfl⟩
          rw [hW5] at H3 ⊢
          obtain ⟨T,hT⟩ : ∃ T,wr.heap.size + 1 = T:=⟨_,rfl⟩
          rw [hT] at H3 ⊢
          obtain ⟨Y,hY⟩ : ∃ Y,wr.heap.size = Y:=⟨_,rfl⟩
          rw [hY] at H3 ⊢
          have x0:=blk_cell H3.head 0 (v:=.int .i64 1) rfl
          have x1:=blk_cell H3.head 1 (v:=.int .u8 0) rfl
          have x2:=blk_cell H3.head 2 (v:=.slice (some ⟨GB,0,none⟩) 1 1) rfl
          have x3:=blk_cell H3.head 3 (v:=.int .i64 1) rfl
          have x4:=blk_cell H3.head 4 (v:=.int .i64 0) rfl
          have zn:=newbad_c H3 (n:=1) (.tail _ (.tail _ (.tail _ (.head _)))) 1 0 1 0 (zs:=[1]) (.tail _ (.head _)) rfl (by decide) (by decide)
          have zm:=fun (W:World) (g:Wider W5 W) => maybad_c (H3.quiet g) (n:=1) (.tail _ (.tail _ (.tail _ (.head _)))) 1 0 1 0 (zs:=[1]) (.tail _ (.head _)) rfl (by decide) (r:=false) (by decide)
          clear e0 e1 e2 e3 e4 H ez hW5
          go_wp2_with (first
           | (go_at_call 11; ((with_reducible refine zn.mono ?_); rintro e w5 ⟨rfl,g⟩; have K5:=H3.quiet g; clear zn x0 x1 x2 x3 x4; have x0:=blk_cell K5.head 0 (v:=.int .i64 1) rfl; have x1:=blk_cell K5.head 1 (v:=.int .u8 0) rfl; have x2:=blk_cell K5.head 2 (v:=.slice (some ⟨GB,0,none⟩) 1 1) rfl; have x3:=blk_cell K5.head 3 (v:=.int .i64 1) rfl; have x4:=blk_cell K5.head 4 (v:=.int .i64 0) rfl; have zm1:=zm _ g))
           | (go_at_call 12; ((with_reducible refine zm1.mono ?_); rintro e w6 ⟨rfl,g6⟩; have K6:=K5.quiet g6; clear zm1 zm)))
          have K7:=K6.drop.drop
          go_roundw
          case rel => exact ⟨4,by decide,by go_num,K7⟩
          case measure => simp [intOf]
        · go_upto_region 37 with (fail)
          have H3:=(H.blk #[.int .i64 1] 3).blk #[.int .i64 1,.int .u8 1,.slice (some ⟨GB,0,none⟩) 1 1,.int .i64 0,.int .i64 0] 36
          have ez:(wr.alloc (.cells #[.int .i64 1] 3)).heap.size = wr.heap.size + 1:=by simp
          rw [ez] at H3
          obtain ⟨W5,hW5⟩ : ∃ W,(wr.alloc (.cells #[.int .i64 1] 3)).alloc (.cells #[.int .i64 1,.int .u8 1,.slice (some ⟨GB,0,none⟩) 1 1,.int .i64 0,.int .i64 0] 36) = W:=⟨_,rfl⟩
          rw [hW5] at H3 ⊢
          obtain ⟨T,hT⟩ : ∃ T,wr.heap.size + 1 = T:=⟨_,rfl⟩
          rw [hT] at H3 ⊢
          obtain ⟨Y,hY⟩ : ∃ Y,wr.heap.size = Y:=⟨_,rfl⟩
          rw [hY] at H3 ⊢
          have x0:=blk_cell H3.head 0 (v:=.int .i64 1) rfl
          have x1:=blk_cell H3.head 1 (v:=.int .u8 1) rfl
          have x2:=blk_cell H3.head 2 (v:=.slice (some ⟨GB,0,none⟩) 1 1) rfl
          have x3:=blk_cell H3.head 3 (v:=.int .i64 0) rfl
          have x4:=blk_cell H3.head 4 (v:=.int .i64 0) rfl
          have zn:=newbad_c H3 (n:=1) (.tail _ (.tail _ (.tail _ (.head _)))) 1 1 0 0 (zs:=[1]) (.tail _ (.head _)) rfl (by decide) (by decide)
          have zm:=fun (W:World) (g:Wider W5 W) => maybad_c (H3.quiet g) (n:=1) (.tail _ (.tail _ (.tail _ (.head _)))) 1 1 0 0 (zs:=[1]) (.tail _ (.head _)) rfl (by decide) (r:=false) (by decide)
          clear e0 e1 e2 e3 e4 H ez hW5
          go_wp2_with (first
           | (go_at_call 11; ((with_reducible refine zn.mono ?_); rintro e w5 ⟨rfl,g⟩; have K5:=H3.quiet g; clear zn x0 x1 x2 x3 x4; have x0:=blk_cell K5.head 0 (v:=.int .i64 1) rfl; have x1:=blk_cell K5.head 1 (v:=.int .u8 1) rfl; have x2:=blk_cell K5.head 2 (v:=.slice (some ⟨GB,0,none⟩) 1 1) rfl; have x3:=blk_cell K5.head 3 (v:=.int .i64 0) rfl; have x4:=blk_cell K5.head 4 (v:=.int .i64 0) rfl; have zm1:=zm _ g))
           | (go_at_call 12; ((with_reducible refine zm1.mono ?_); rintro e w6 ⟨rfl,g6⟩; have K6:=K5.quiet g6; clear zm1 zm)))
          have K7:=K6.drop.drop
          go_roundw
          case rel => exact ⟨5,by decide,by go_num,K7⟩
          case measure => simp [intOf]
        · go_upto_region 37 with (fail)
          have H3:=(H.blk #[.int .i64 1] 3).blk #[.int .i64 1,.int .u8 1,.slice (some ⟨GB,0,none⟩) 1 1,.int .i64 257,.int .i64 0] 36
          have ez:(wr.alloc (.cells #[.int .i64 1] 3)).heap.size = wr.heap.size + 1:=by simp
          rw [ez] at H3
          obtain ⟨W5,hW5⟩ : ∃ W,(wr.alloc (.cells #[.int .i64 1] 3)).alloc (.cells #[.int .i64 1,.int .u8 1,.slice (some ⟨GB,0,none⟩) 1 1,.int .i64 257,.int .i64 0] 36) = W:=⟨_,rfl⟩
          rw [hW5] at H3 ⊢
          obtain ⟨T,hT⟩ : ∃ T,wr.heap.size + 1 = T:=⟨_,rfl⟩
          rw [hT] at H3 ⊢
          obtain ⟨Y,hY⟩ : ∃ Y,wr.heap.size = Y:=⟨_,rfl⟩
          rw [hY] at H3 ⊢
          have x0:=blk_cell H3.head 0 (v:=.int .i64 1) rfl
          have x1:=blk_cell H3.head 1 (v:=.int .u8 1) rfl
          have x2:=blk_cell H3.head 2 (v:=.slice (some ⟨GB,0,none⟩) 1 1) rfl
          have x3:=blk_cell H3.head 3 (v:=.int .i64 257) rfl
          have x4:=blk_cell H3.head 4 (v:=.int .i64 0) rfl
          have zn:=newbad_c H3 (n:=1) (.tail _ (.tail _ (.tail _ (.head _)))) 1 1 257 0 (zs:=[1]) (.tail _ (.head _)) rfl (by decide) (by decide)
          have zm:=fun (W:World) (g:Wider W5 W) => maybad_c (H3.quiet g) (n:=1) (.tail _ (.tail _ (.tail _ (.head _)))) 1 1 257 0 (zs:=[1]) (.tail _ (.head _)) rfl (by decide) (r:=false) (by decide)
          clear e0 e1 e2 e3 e4 H ez hW5
          go_wp2_with (first
           | (go_at_call 11; ((with_reducible refine zn.mono ?_); rintro e w5 ⟨rfl,g⟩; have K5:=H3.quiet g; clear zn x0 x1 x2 x3 x4; have x0:=blk_cell K5.head 0 (v:=.int .i64 1) rfl; have x1:=blk_cell K5.head 1 (v:=.int .u8 1) rfl; have x2:=blk_cell K5.head 2 (v:=.slice (some ⟨GB,0,none⟩) 1 1) rfl; have x3:=blk_cell K5.head 3 (v:=.int .i64 257) rfl; have x4:=blk_cell K5.head 4 (v:=.int .i64 0) rfl; have zm1:=zm _ g))
           | (go_at_call 12; ((with_reducible refine zm1.mono ?_); rintro e w6 ⟨rfl,g6⟩; have K6:=K5.quiet g6; clear zm1 zm)))
          have K7:=K6.drop.drop
          go_roundw
          case rel => exact ⟨6,by decide,by go_num,K7⟩
          case measure => simp [intOf]
        · go_upto_region 37 with (fail)
          have H3:=(H.blk #[.int .i64 1] 3).blk #[.int .i64 1,.int .u8 1,.slice (some ⟨GB,0,none⟩) 1 1,.int .i64 1,.int .i64 0] 36
          have ez:(wr.alloc (.cells #[.int .i64 1] 3)).heap.size = wr.heap.size + 1:=by simp
          rw [ez] at H3
          have H3:=H3.blk #[.int .i64 17] 3
          have ez2:((wr.alloc (.cells #[.int .i64 1] 3)).alloc (.cells #[.int .i64 1,.int .u8 1,.slice (some ⟨GB,0,none⟩) 1 1,.int .i64 1,.int .i64 0] 36)).heap.size = wr.heap.size + 1 + 1:=by simp
          rw [ez2] at H3
          obtain ⟨W5,hW5⟩ : ∃ W,((wr.alloc (.cells #[.int .i64 1] 3)).alloc (.cells #[.int .i64 1,.int .u8 1,.slice (some ⟨GB,0,none⟩) 1 1,.int .i64 1,.int .i64 0] 36)).alloc (.cells #[.int .i64 17] 3) = W:=⟨_,rfl⟩
          rw [hW5] at H3 ⊢
          obtain ⟨Y,hY⟩ : ∃ Y,wr.heap.size + 1 + 1 = Y:=⟨_,rfl⟩
          rw [hY] at H3
          try rw [hY]
          try rw [show wr.heap.size + 2 = Y from hY]
          obtain ⟨T,hT⟩ : ∃ T,wr.heap.size + 1 = T:=⟨_,rfl⟩
          rw [hT] at H3 ⊢
          have x0:=blk_cell H3.drop.head 0 (v:=.int .i64 1) rfl
          have x1:=blk_cell H3.drop.head 1 (v:=.int .u8 1) rfl
          have x2:=blk_cell H3.drop.head 2 (v:=.slice (some ⟨GB,0,none⟩) 1 1) rfl
          have x3:=blk_cell H3.drop.head 3 (v:=.int .i64 1) rfl
          have x4:=blk_cell H3.drop.head 4 (v:=.int .i64 0) rfl
          have zn:=newbad_c H3 (n:=1) (.tail _ (.tail _ (.tail _ (.tail _ (.head _))))) 1 1 1 0 (zs:=[17]) (.head _) rfl (by decide) (by decide)
          have zm:=fun (W:World) (g:Wider W5 W) => maybad_c (H3.quiet g) (n:=1) (.tail _ (.tail _ (.tail _ (.tail _ (.head _))))) 1 1 1 0 (zs:=[17]) (.head _) rfl (by decide) (r:=false) (by decide)
          clear e0 e1 e2 e3 e4 H ez hW5 ez2
          go_wp2_with (first
           | (go_at_call 11; ((with_reducible refine zn.mono ?_); rintro e w5 ⟨rfl,g⟩; have K5:=H3.quiet g; clear zn x0 x1 x2 x3 x4; have x0:=blk_cell K5.drop.head 0 (v:=.int .i64 1) rfl; have x1:=blk_cell K5.drop.head 1 (v:=.int .u8 1) rfl; have x2:=blk_cell K5.drop.head 2 (v:=.slice (some ⟨GB,0,none⟩) 1 1) rfl; have x3:=blk_cell K5.drop.head 3 (v:=.int .i64 1) rfl; have x4:=blk_cell K5.drop.head 4 (v:=.int .i64 0) rfl; have zm1:=zm _ g))
           | (go_at_call 12; ((with_reducible refine zm1.mono ?_); rintro e w6 ⟨rfl,g6⟩; have K6:=K5.quiet g6; clear zm1 zm)))
          have K7:=K6.drop.drop.drop
          go_roundw
          case rel => exact ⟨7,by decide,by go_num,K7⟩
          case measure => simp [intOf]
        · go_upto_region 37 with (fail)
          have H3:=(H.blk #[.int .i64 1] 3).blk #[.int .i64 1,.int .u8 1,.slice (some ⟨GB,0,none⟩) 1 1,.int .i64 1,.int .i64 0] 36
          have ez:(wr.alloc (.cells #[.int .i64 1] 3)).heap.size = wr.heap.size + 1:=by simp
          rw [ez] at H3
          have H3:=H3.blk #[.int .i64 1,.int .i64 1] 3
          have ez2:((wr.alloc (.cells #[.int .i64 1] 3)).alloc (.cells #[.int .i64 1,.int .u8 1,.slice (some ⟨GB,0,none⟩) 1 1,.int .i64 1,.int .i64 0] 36)).heap.size = wr.heap.size + 1 + 1:=by simp
          rw [ez2] at H3
          obtain ⟨W5,hW5⟩ : ∃ W,((wr.alloc (.cells #[.int .i64 1] 3)).alloc (.cells #[.int .i64 1,.int .u8 1,.slice (some ⟨GB,0,none⟩) 1 1,.int .i64 1,.int .i64 0] 36)).alloc (.cells #[.int .i64 1,.int .i64 1] 3) = W:=⟨_,rfl⟩
          rw [hW5] at H3 ⊢
          obtain ⟨Y,hY⟩ : ∃ Y,wr.heap.size + 1 + 1 = Y:=⟨_,rfl⟩
          rw [hY] at H3
          try rw [hY]
          try rw [show wr.heap.size + 2 = Y from hY]
          obtain ⟨T,hT⟩ : ∃ T,wr.heap.size + 1 = T:=⟨_,rfl⟩
          rw [hT] at H3 ⊢
          have x0:=blk_cell H3.drop.head 0 (v:=.int .i64 1) rfl
          have x1:=blk_cell H3.drop.head 1 (v:=.int .u8 1) rfl
          have x2:=blk_cell H3.drop.head 2 (v:=.slice (some ⟨GB,0,none⟩) 1 1) rfl
          have x3:=blk_cell H3.drop.head 3 (v:=.int .i64 1) rfl
          have x4:=blk_cell H3.drop.head 4 (v:=.int .i64 0) rfl
          have zn:=newbad_c H3 (n:=2) (.tail _ (.tail _ (.tail _ (.tail _ (.head _))))) 1 1 1 0 (zs:=[1,1]) (.head _) rfl (by decide) (by decide)
          have zm:=fun (W:World) (g:Wider W5 W) => maybad_c (H3.quiet g) (n:=2) (.tail _ (.tail _ (.tail _ (.tail _ (.head _))))) 1 1 1 0 (zs:=[1,1]) (.head _) rfl (by decide) (r:=false) (by decide)
          clear e0 e1 e2 e3 e4 H ez hW5 ez2
          go_wp2_with (first
           | (go_at_call 11; ((with_reducible refine zn.mono ?_); rintro e w5 ⟨rfl,g⟩; have K5:=H3.quiet g; clear zn x0 x1 x2 x3 x4; have x0:=blk_cell K5.drop.head 0 (v:=.int .i64 1) rfl; have x1:=blk_cell K5.drop.head 1 (v:=.int .u8 1) rfl; have x2:=blk_cell K5.drop.head 2 (v:=.slice (some ⟨GB,0,none⟩) 1 1) rfl; have x3:=blk_cell K5.drop.head 3 (v:=.int .i64 1) rfl; have x4:=blk_cell K5.drop.head 4 (v:=.int .i64 0) rfl; have zm1:=zm _ g))
           | (go_at_call 12; ((with_reducible refine zm1.mono ?_); rintro e w6 ⟨rfl,g6⟩; have K6:=K5.quiet g6; clear zm1 zm)))
          have K7:=K6.drop.drop.drop
          go_roundw
          case rel => exact ⟨8,by decide,by go_num,K7⟩
          case measure => simp [intOf]
        · go_upto_region 37 with (fail)
          have H3:=(H.blk #[.int .i64 1] 3).blk #[.int .i64 1,.int .u8 1,.slice (some ⟨GB,0,none⟩) 1 1,.int .i64 1,.int .i64 (-1)] 36
          have ez:(wr.alloc (.cells #[.int .i64 1] 3)).heap.size = wr.heap.size + 1:=by simp
          rw [ez] at H3
          obtain ⟨W5,hW5⟩ : ∃ W,(wr.alloc (.cells #[.int .i64 1] 3)).alloc (.cells #[.int .i64 1,.int .u8 1,.slice (some ⟨GB,0,none⟩) 1 1,.int .i64 1,.int .i64 (-1)] 36) = W:=⟨_,rfl⟩
          rw [hW5] at H3 ⊢
          obtain ⟨T,hT⟩ : ∃ T,wr.heap.size + 1 = T:=⟨_,rfl⟩
          rw [hT] at H3 ⊢
          obtain ⟨Y,hY⟩ : ∃ Y,wr.heap.size = Y:=⟨_,rfl⟩
          rw [hY] at H3 ⊢
          have x0:=blk_cell H3.head 0 (v:=.int .i64 1) rfl
          have x1:=blk_cell H3.head 1 (v:=.int .u8 1) rfl
          have x2:=blk_cell H3.head 2 (v:=.slice (some ⟨GB,0,none⟩) 1 1) rfl
          have x3:=blk_cell H3.head 3 (v:=.int .i64 1) rfl
          have x4:=blk_cell H3.head 4 (v:=.int .i64 (-1)) rfl
          have zn:=newbad_c H3 (n:=1) (.tail _ (.tail _ (.tail _ (.head _)))) 1 1 1 (-1) (zs:=[1]) (.tail _ (.head _)) rfl (by decide) (by decide)
          have zm:=fun (W:World) (g:Wider W5 W) => maybad_c (H3.quiet g) (n:=1) (.tail _ (.tail _ (.tail _ (.head _)))) 1 1 1 (-1) (zs:=[1]) (.tail _ (.head _)) rfl (by decide) (r:=false) (by decide)
          clear e0 e1 e2 e3 e4 H ez hW5
          go_wp2_with (first
           | (go_at_call 11; ((with_reducible refine zn.mono ?_); rintro e w5 ⟨rfl,g⟩; have K5:=H3.quiet g; clear zn x0 x1 x2 x3 x4; have x0:=blk_cell K5.head 0 (v:=.int .i64 1) rfl; have x1:=blk_cell K5.head 1 (v:=.int .u8 1) rfl; have x2:=blk_cell K5.head 2 (v:=.slice (some ⟨GB,0,none⟩) 1 1) rfl; have x3:=blk_cell K5.head 3 (v:=.int .i64 1) rfl; have x4:=blk_cell K5.head 4 (v:=.int .i64 (-1)) rfl; have zm1:=zm _ g))
           | (go_at_call 12; ((with_reducible refine zm1.mono ?_); rintro e w6 ⟨rfl,g6⟩; have K6:=K5.quiet g6; clear zm1 zm)))
          have K7:=K6.drop.drop
          go_roundw
          case rel => exact ⟨9,by decide,by go_num,K7⟩
          case measure => simp [intOf]
      · obtain rfl:j = 9:=by omega
        have q9:¬ (9:Int) < 9:=by omega
        have y0:=blk_cell H.head 0 (v:=.int .i64 1) rfl
        go_upto_region 44 with (first
         | (go_at_call 13; ((with_reducible refine (nfind_c _).mono ?_); rintro e w5 ⟨rfl,g⟩; have K5:=(H.quiet g).quiet ((Wider.refl w5).alloc (.cells #[.int .i64 0,.string ⟨#[]⟩,.string ⟨#[]⟩,.int .i64 0,.int .i64 0,.int .i64 0,.slice none 0 0,.int .i64 0,.int .i64 0,.int .u64 0,.bool false] 26)); clear g))
         | (go_at_call 14; ((with_reducible refine (nlook_c _).mono ?_); rintro e w6 ⟨rfl,g⟩; have K6:=(K5.quiet g).quiet ((Wider.refl w6).alloc (.cells #[.int .i64 0,.string ⟨#[]⟩,.string ⟨#[]⟩,.int .i64 0,.int .i64 0,.int .i64 0,.slice none 0 0,.int .i64 0,.int .i64 0,.int .u64 0,.bool false] 26)); clear g))
         | (go_at_call 15; ((with_reducible refine (ndue_c _).mono ?_); rintro e w7 ⟨rfl,g⟩; have K7:=K6.quiet g; clear g)))
        clear y0 K5 K6 H
        have e0:=blk_cell K7.head 0 (v:=.int .i64 1) rfl
        have e1:=blk_cell K7.head 1 (v:=.int .u8 1) rfl
        have e2:=blk_cell K7.head 2 (v:=.slice (some ⟨GB,0,none⟩) 1 1) rfl
        have e3:=blk_cell K7.head 3 (v:=.int .i64 1) rfl
        have e4:=blk_cell K7.head 4 (v:=.int .i64 0) rfl
        have K8:=K7.blk #[.int .i64 16] 3
        have zmA:=maybad_c K8 (n:=1) (.tail _ (.tail _ (.head _))) 1 1 1 0 (zs:=[16]) (.head _) rfl (by decide) (r:=true) (by decide)
        have HK8:=Lib.hid K8
        clear K7 K8
        try dsimp only [List.append]
        go_wp2_with (first
         | (go_at_call 12; ((with_reducible refine zmA.mono ?_); rintro e w8 ⟨rfl,g8⟩; have K9:=HK8.out.quiet g8; have K10:=(K9.blk #[.int .i64 1,.int .i64 2,.int .i64 3] 3).blk #[.int .i64 16,.int .i64 16,.int .i64 1] 3; have zmB:=maytab3_c K10; have HK10:=Lib.hid K10; clear zmA g8 K9 K10 e0 e1 e2 e3 e4))
         | (go_at_call 12; ((with_reducible refine zmB.mono ?_); rintro e w9 ⟨rfl,g9⟩; have G9:=HK10.out.wider.trans g9; clear zmB g9))
         | (go_at_call 9; ((with_reducible refine (nmay_c _).mono ?_); rintro e wa ⟨rfl,ga⟩; have Ga:=G9.trans ga; clear ga))
         | (go_at_call 10; ((with_reducible refine (nput_c _).mono ?_); rintro e wb ⟨rfl,gb⟩; have Gb:=Ga.trans gb; clear gb))
         | (go_at_call 16; ((with_reducible refine (ndel_c _).mono ?_); rintro e wc2 ⟨rfl,gc⟩; have Gc:=Gb.trans gc; clear gc))
         | (go_at_call 17; ((with_reducible refine (nexp_c _).mono ?_); rintro e wd ⟨rfl,gd⟩; have Gd:=Gc.trans gd; clear gd))
         | (go_at_call 18; ((with_reducible refine (nents_c _).mono ?_); rintro e we ⟨rfl,ge⟩; have Ge:=Gd.trans ge; clear ge))
         | (go_at_call 19; ((with_reducible refine (nlen_c _).mono ?_); rintro e wf ⟨rfl,gf⟩; have Gf:=Ge.trans gf; clear gf))
         | (go_at_call 20; ((with_reducible refine (ncopy_c _).mono ?_); rintro e wg ⟨rfl,gg⟩; have Gg:=Gf.trans gg; clear gg))
         | (go_at_call 22; ((with_reducible refine (ntab_c _).mono ?_); rintro e wh ⟨rfl,gh⟩; have Gh:=Gg.trans gh; clear gh))
         | (go_at_call 21; ((with_reducible refine (nst_c _).mono ?_); rintro e wi ⟨rfl,gi⟩; have Gi:=Gh.trans gi; clear gi)))
        exact HQ.out _ _ ⟨rfl,Gi⟩
set_option maxRecDepth 100000 in
theorem tableNames_lifted (os:Os) (started:os.Started) (H:Type) (enc:TypeId × Value → H) :
 ReturnsInHanded {} Tryz.checked os 3 .any (Rows.tableNamesSpec.pre6 enc Tryz.prog Tryz.f3 Rows.tableNamesRow.domain false) (Rows.tableNamesSpec.post enc Tryz.prog Tryz.f3 false true false false) := by
 refine returnsInHanded_of_change (C:=Tryz.checked) own started (by kernel_rfl) Tryz.func3
  (ChangeSpec.witness6 (enc:=enc) (C:=Tryz.checked) false ⟨#[],#[],[]⟩ 8 (by kernel_rfl) (by kernel_rfl) (by kernel_rfl) (by kernel_rfl)) ?_
 intro W base args ds gs before hval0 hW hcnd _
 have hval:∀ (j:Nat) t v,Tryz.f3.params[j]? = some t → args[j]? = some v → Value.okWide Tryz.prog W .any base t v:=hval0
 have hW':=hW
 obtain ⟨p,q,hA0,hV,rfl,hfz,hnd⟩:=hW
 have hA:DataW.TrodAll enc Tryz.prog W 0 (fun _ => true) true Tryz.f3.params.toList args.toList ds p:=hA0
 rw [Tryz.params3] at hA hval
 obtain ⟨hargs,rfl,rfl⟩:=trodAll_nil hA
 obtain rfl:args = #[]:=by cases args; simp_all
 obtain ⟨rfl,rfl⟩:=trodVars_none hV
 clear hA0 hval0
 simp only [List.append_nil] at hW'
 refine (tableNames_walk  W).mono fun e W' ⟨he,hg⟩ => ?_
 subst he
 exact ⟨_,rfl,post_of_none hW' (fun _ _ _ => (trodAll_cons_mk (shut_bool Tryz.underlying4 _) trodAll_mk0)) (fun sp => trodAll_mk0) (fun _ => rfl)
  hg.1 (ok_one (by kernel_rfl) rfl (okWide_bool_mk Tryz.underlying4 _))⟩
theorem tableNames_holds : Rows.TableNamesSaid :=
 OpenClaim.holds_of_wide 3 Tryz.f3 rfl rfl rfl rfl rfl rfl rfl ⟨rfl,rfl,rfl,rfl,rfl⟩ rfl rfl rfl rfl rfl (by kernel_rfl) Tryz.func3 (by kernel_rfl)
  (of_decide_eq_true (by kernel_rfl)) (by unfold Func.isWrapper; first | (rw [if_pos (by decide +kernel)]; kernel_rfl) | (rw [if_neg (by decide +kernel)]; exact ⟨rfl,rfl⟩))
  (fun os started H enc _ => tableNames_lifted os started H enc)
#print axioms tableNames_holds
end Go.Proofs.YtbnpelciceblfaaGreat
