/- PSame -/
import Derived.Test.YtoopdhgmdjienaaGreatDoorPkR43
import Derived.Test.YtoopdhgmdjienaaGreatDoorPkR45
namespace Go.Proofs.YtoopdhgmdjienaaGreatDoor
set_option linter.unusedVariables false
set_option maxRecDepth 20000
open Go.ChangeShapes Go.WideShapes Go.ChangeAt Go.RowKit Go.Joins
open Go.ChangeMaps (open_string shut_string)
set_option maxHeartbeats 64000000
theorem some_bool3 (p:Prop):∃ b:Bool,b = true ↔ p:=by
 by_cases h:p
 · exact ⟨true,by simp [h]⟩
 · exact ⟨false,by simp [h]⟩
theorem tell_bool3 {p:Prop} {a b:Bool} (h:a = true ↔ p) (k:b = true ↔ p):a = b:=by
 cases a <;> cases b <;> simp_all
theorem rsame_c (w:World) {M N:Array Value} {d e:MsgD} (R:RepD w M d) (Q:RepD w N e) {r:Bool} (hr:r = true ↔ SameD d e) :
 Calls Tryz.prog 22 #[.agg M,.agg N] w fun x w' => x = .returned (.bool r) ∧ Wider w w':=by
 obtain ⟨r0,h0⟩:=some_bool3 (d.kind = e.kind)
 obtain ⟨r1,h1⟩:=some_bool3 (d.xid = e.xid)
 obtain ⟨r2,h2⟩:=some_bool3 (d.id = e.id)
 obtain ⟨r3,h3⟩:=some_bool3 (d.idx = e.idx)
 obtain ⟨r4,h4⟩:=some_bool3 (d.code = e.code)
 obtain ⟨r5,h5⟩:=some_bool3 (d.port = e.port)
 obtain ⟨r6,h6⟩:=some_bool3 (d.tag = e.tag)
 obtain ⟨r7,h7⟩:=some_bool3 (d.n = e.n)
 obtain ⟨r8,h8⟩:=some_bool3 (d.m = e.m)
 obtain ⟨r9,h9⟩:=some_bool3 (d.data = e.data)
 obtain ⟨r10,h10⟩:=some_bool3 (d.words = e.words)
 obtain ⟨r11,h11⟩:=some_bool3 (d.V 0 = e.V 0)
 obtain ⟨r12,h12⟩:=some_bool3 (d.V 1 = e.V 1)
 obtain ⟨r13,h13⟩:=some_bool3 (d.V 2 = e.V 2)
 obtain ⟨r14,h14⟩:=some_bool3 (d.V 3 = e.V 3)
 obtain ⟨r15,h15⟩:=some_bool3 (d.V 4 = e.V 4)
 obtain ⟨r16,h16⟩:=some_bool3 (d.V 5 = e.V 5)
 obtain ⟨r17,h17⟩:=some_bool3 (d.V 6 = e.V 6)
 obtain ⟨r18,h18⟩:=some_bool3 (d.V 7 = e.V 7)
 have er:(r0 && r1 && r2 && r3 && r4 && r5 && r6 && r7 && r8 && r9 && r10 && r11 && r12 && r13 && r14 && r15 && r16 && r17 && r18) = r:=by
  refine tell_bool3 (p:=SameD d e) ?_ hr
  unfold SameD
  rw [ps_eq]
  simp only [Bool.and_eq_true,h0,h1,h2,h3,h4,h5,h6,h7,h8,h9,h10,h11,h12,h13,h14,h15,h16,h17,h18]
  constructor
  · rintro ⟨⟨⟨⟨⟨⟨⟨⟨⟨⟨⟨⟨⟨⟨⟨⟨⟨⟨g0,g1⟩,g2⟩,g3⟩,g4⟩,g5⟩,g6⟩,g7⟩,g8⟩,g9⟩,g10⟩,g11⟩,g12⟩,g13⟩,g14⟩,g15⟩,g16⟩,g17⟩,g18⟩
    exact ⟨g0,g1,g2,g3,g4,g5,g6,g7,g8,g9,g10,g11,g12,g13,g14,g15,g16,g17,g18⟩
  · rintro ⟨g0,g1,g2,g3,g4,g5,g6,g7,g8,g9,g10,g11,g12,g13,g14,g15,g16,g17,g18⟩
    exact ⟨⟨⟨⟨⟨⟨⟨⟨⟨⟨⟨⟨⟨⟨⟨⟨⟨⟨g0,g1⟩,g2⟩,g3⟩,g4⟩,g5⟩,g6⟩,g7⟩,g8⟩,g9⟩,g10⟩,g11⟩,g12⟩,g13⟩,g14⟩,g15⟩,g16⟩,g17⟩,g18⟩
 subst er
 clear hr
 have sM:=R.size
 have sN:=Q.size
 have G0:=((Wider.refl w).alloc (.cells M 51)).alloc (.cells N 51)
 have hz:(w.alloc (.cells M 51)).heap.size = w.heap.size + 1:=by simp
 have hA:=wide_blk (heap_alloc_new w (.cells M 51)) ((Wider.refl _).alloc (.cells N 51))
 have hB:=heap_alloc_new (w.alloc (.cells M 51)) (.cells N 51)
 rw [hz] at hB
 go_enter Tryz.func22,Tryz.ntmps22
 go_upto_region 1 with (fail)
 obtain ⟨w1,hw1⟩ : ∃ w1,(w.alloc (.cells M 51)).alloc (.cells N 51) = w1:=⟨_,rfl⟩
 rw [hw1] at hA hB G0 ⊢
 replace R:=R.on G0
 replace Q:=Q.on G0
 clear hw1 hz
 have hX:=after_blk hA
 have hY:=after_blk hB
 have ka0:∀ W,(∃ x:After w1,W = x.w) → W.cell? ⟨w.heap.size,0,none⟩ = some (.int .u8 d.kind):=fun W q => blk_cell (hX W q) 0 R.c0
 have kb0:∀ W,(∃ x:After w1,W = x.w) → W.cell? ⟨(w.heap.size + 1),0,none⟩ = some (.int .u8 e.kind):=fun W q => blk_cell (hY W q) 0 Q.c0
 have ka1:∀ W,(∃ x:After w1,W = x.w) → W.cell? ⟨w.heap.size,1,none⟩ = some (.int .u32 d.xid):=fun W q => blk_cell (hX W q) 1 R.c1
 have kb1:∀ W,(∃ x:After w1,W = x.w) → W.cell? ⟨(w.heap.size + 1),1,none⟩ = some (.int .u32 e.xid):=fun W q => blk_cell (hY W q) 1 Q.c1
 have ka2:∀ W,(∃ x:After w1,W = x.w) → W.cell? ⟨w.heap.size,2,none⟩ = some (.int .i64 d.id):=fun W q => blk_cell (hX W q) 2 R.c2
 have kb2:∀ W,(∃ x:After w1,W = x.w) → W.cell? ⟨(w.heap.size + 1),2,none⟩ = some (.int .i64 e.id):=fun W q => blk_cell (hY W q) 2 Q.c2
 have ka3:∀ W,(∃ x:After w1,W = x.w) → W.cell? ⟨w.heap.size,3,none⟩ = some (.int .i64 d.idx):=fun W q => blk_cell (hX W q) 3 R.c3
 have kb3:∀ W,(∃ x:After w1,W = x.w) → W.cell? ⟨(w.heap.size + 1),3,none⟩ = some (.int .i64 e.idx):=fun W q => blk_cell (hY W q) 3 Q.c3
 have ka4:∀ W,(∃ x:After w1,W = x.w) → W.cell? ⟨w.heap.size,4,none⟩ = some (.int .i64 d.code):=fun W q => blk_cell (hX W q) 4 R.c4
 have kb4:∀ W,(∃ x:After w1,W = x.w) → W.cell? ⟨(w.heap.size + 1),4,none⟩ = some (.int .i64 e.code):=fun W q => blk_cell (hY W q) 4 Q.c4
 have ka5:∀ W,(∃ x:After w1,W = x.w) → W.cell? ⟨w.heap.size,5,none⟩ = some (.int .i64 d.port):=fun W q => blk_cell (hX W q) 5 R.c5
 have kb5:∀ W,(∃ x:After w1,W = x.w) → W.cell? ⟨(w.heap.size + 1),5,none⟩ = some (.int .i64 e.port):=fun W q => blk_cell (hY W q) 5 Q.c5
 have ka6:∀ W,(∃ x:After w1,W = x.w) → W.cell? ⟨w.heap.size,6,none⟩ = some (.int .i64 d.tag):=fun W q => blk_cell (hX W q) 6 R.c6
 have kb6:∀ W,(∃ x:After w1,W = x.w) → W.cell? ⟨(w.heap.size + 1),6,none⟩ = some (.int .i64 e.tag):=fun W q => blk_cell (hY W q) 6 Q.c6
 have ka7:∀ W,(∃ x:After w1,W = x.w) → W.cell? ⟨w.heap.size,7,none⟩ = some (.int .u64 d.n):=fun W q => blk_cell (hX W q) 7 R.c7
 have kb7:∀ W,(∃ x:After w1,W = x.w) → W.cell? ⟨(w.heap.size + 1),7,none⟩ = some (.int .u64 e.n):=fun W q => blk_cell (hY W q) 7 Q.c7
 have ka8:∀ W,(∃ x:After w1,W = x.w) → W.cell? ⟨w.heap.size,8,none⟩ = some (.int .u64 d.m):=fun W q => blk_cell (hX W q) 8 R.c8
 have kb8:∀ W,(∃ x:After w1,W = x.w) → W.cell? ⟨(w.heap.size + 1),8,none⟩ = some (.int .u64 e.m):=fun W q => blk_cell (hY W q) 8 Q.c8
 have ka9:∀ W,(∃ x:After w1,W = x.w) → W.cell? ⟨w.heap.size,9,none⟩ = some (.string d.data):=fun W q => blk_cell (hX W q) 9 R.c9
 have kb9:∀ W,(∃ x:After w1,W = x.w) → W.cell? ⟨(w.heap.size + 1),9,none⟩ = some (.string e.data):=fun W q => blk_cell (hY W q) 9 Q.c9
 obtain ⟨v1,A1,n1,c1,e1,rfl,row1,len1,few1,wf1⟩:=R.c10
 obtain ⟨v2,A2,n2,c2,e2,rfl,row2,len2,few2,wf2⟩:=Q.c10
 have ka10:∀ W,(∃ x:After w1,W = x.w) → W.cell? ⟨w.heap.size,10,none⟩ = some (.slice A1 n1 c1):=fun W q => blk_cell (hX W q) 10 e1
 have kb10:∀ W,(∃ x:After w1,W = x.w) → W.cell? ⟨w.heap.size + 1,10,none⟩ = some (.slice A2 n2 c2):=fun W q => blk_cell (hY W q) 10 e2
 have R0:=R.A.r0
 have Q0:=Q.A.r0
 have R1:=R.A.r1
 have Q1:=Q.A.r1
 have R2:=R.A.r2
 have Q2:=Q.A.r2
 have R3:=R.A.r3
 have Q3:=Q.A.r3
 have R4:=R.A.r4
 have Q4:=Q.A.r4
 have R5:=R.A.r5
 have Q5:=Q.A.r5
 have R6:=R.A.r6
 have Q6:=Q.A.r6
 have R7:=R.A.r7
 have Q7:=Q.A.r7
 have G1:Hid (Wider w w1):=G0
 clear G0 hA hB R Q e1 e2
 have hw10:rowsK ksArg d.words = rowsK ksArg e.words ↔ r10 = true:=⟨fun q => h10.2 (rowsK_inj (fun x hx => (wf1 x hx).1) (fun x hx => (wf2 x hx).1) q),fun q => by rw [h10.1 q]⟩
 have zw:=fun (x:After w1) => numbers_c x.w A1 A2 n1 c1 n2 c2 (rowsK ksArg d.words) (rowsK ksArg e.words) (row1.on x.h) (row2.on x.h) (by rw [rowsK_len]; exact len1) (by rw [rowsK_len]; exact len2) few1 few2 (shapeArg wf1) (shapeArg wf2) hw10
 clear row1 row2 len1 len2 few1 few2 wf1 wf2 hw10 h10
 refine wp_region_plain (Wider.refl w1) ?_
 (try dsimp only [List.append])
 go_big_quiet_want; (refine quiet_field 51 (.tmp 2) 0 rfl w.heap.size 0 0 rfl (fieldM0 _) ?_); go_big_quiet_on; simp only [Act.put,List.setIfInBounds_toArray,List.set_cons_succ,List.set_cons_zero]
 go_big_quiet_want; (refine quiet_cell 5 (.tmp 5) rfl w.heap.size 0 rfl ka0 _ Tryz.underlying5 rfl ?_); go_big_quiet_on; simp only [Act.put,List.setIfInBounds_toArray,List.set_cons_succ,List.set_cons_zero]
 go_big_quiet_want; (refine quiet_field 51 (.tmp 3) 0 rfl (w.heap.size + 1) 0 0 rfl (fieldM0 _) ?_); go_big_quiet_on; simp only [Act.put,List.setIfInBounds_toArray,List.set_cons_succ,List.set_cons_zero]
 go_big_quiet_want; (refine quiet_cell 5 (.tmp 7) rfl (w.heap.size + 1) 0 rfl kb0 _ Tryz.underlying5 rfl ?_); go_big_quiet_on; simp only [Act.put,List.setIfInBounds_toArray,List.set_cons_succ,List.set_cons_zero]
 have g0:(d.kind == e.kind) = r0:=by
  cases r0 with
  | true => rw [beq_iff_eq]; exact h0.1 rfl
  | false => rw [beq_eq_false_iff_ne]; exact fun q => absurd (h0.2 q) Bool.false_ne_true
 go_big_quiet_step (fail)
 (try simp only [g0])
 go_big_quiet_step (fail)
 (try simp only [Bool.false_eq_true,↓reduceIte])
 clear h0
 cases r0
 case false => (repeat (go_big_quiet_step (fail); (try simp only [Bool.false_eq_true,↓reduceIte]))); refine wpQuiet_nil ?_; rintro _ ⟨y,rfl⟩; have HY:=y.h; go_wp2; go_ret; exact ⟨rfl,G1.out.trans HY⟩
 go_big_quiet_want; (refine quiet_field 51 (.tmp 2) 1 rfl w.heap.size 0 1 rfl (fieldM1 _) ?_); go_big_quiet_on; simp only [Act.put,List.setIfInBounds_toArray,List.set_cons_succ,List.set_cons_zero]
 go_big_quiet_want; (refine quiet_cell 27 (.tmp 11) rfl w.heap.size 1 rfl ka1 _ Tryz.underlying27 rfl ?_); go_big_quiet_on; simp only [Act.put,List.setIfInBounds_toArray,List.set_cons_succ,List.set_cons_zero]
 go_big_quiet_want; (refine quiet_field 51 (.tmp 3) 1 rfl (w.heap.size + 1) 0 1 rfl (fieldM1 _) ?_); go_big_quiet_on; simp only [Act.put,List.setIfInBounds_toArray,List.set_cons_succ,List.set_cons_zero]
 go_big_quiet_want; (refine quiet_cell 27 (.tmp 13) rfl (w.heap.size + 1) 1 rfl kb1 _ Tryz.underlying27 rfl ?_); go_big_quiet_on; simp only [Act.put,List.setIfInBounds_toArray,List.set_cons_succ,List.set_cons_zero]
 have g1:(d.xid == e.xid) = r1:=by
  cases r1 with
  | true => rw [beq_iff_eq]; exact h1.1 rfl
  | false => rw [beq_eq_false_iff_ne]; exact fun q => absurd (h1.2 q) Bool.false_ne_true
 go_big_quiet_step (fail)
 (try simp only [g1])
 go_big_quiet_step (fail)
 (try simp only [Bool.false_eq_true,↓reduceIte])
 go_big_quiet_step (fail)
 (try simp only [Bool.false_eq_true,↓reduceIte])
 clear h1
 cases r1
 case false => (repeat (go_big_quiet_step (fail); (try simp only [Bool.false_eq_true,↓reduceIte]))); refine wpQuiet_nil ?_; rintro _ ⟨y,rfl⟩; have HY:=y.h; go_wp2; go_ret; exact ⟨rfl,G1.out.trans HY⟩
 go_big_quiet_want; (refine quiet_field 51 (.tmp 2) 2 rfl w.heap.size 0 2 rfl (fieldM2 _) ?_); go_big_quiet_on; simp only [Act.put,List.setIfInBounds_toArray,List.set_cons_succ,List.set_cons_zero]
 go_big_quiet_want; (refine quiet_cell 3 (.tmp 18) rfl w.heap.size 2 rfl ka2 _ Tryz.underlying3 rfl ?_); go_big_quiet_on; simp only [Act.put,List.setIfInBounds_toArray,List.set_cons_succ,List.set_cons_zero]
 go_big_quiet_want; (refine quiet_field 51 (.tmp 3) 2 rfl (w.heap.size + 1) 0 2 rfl (fieldM2 _) ?_); go_big_quiet_on; simp only [Act.put,List.setIfInBounds_toArray,List.set_cons_succ,List.set_cons_zero]
 go_big_quiet_want; (refine quiet_cell 3 (.tmp 20) rfl (w.heap.size + 1) 2 rfl kb2 _ Tryz.underlying3 rfl ?_); go_big_quiet_on; simp only [Act.put,List.setIfInBounds_toArray,List.set_cons_succ,List.set_cons_zero]
 have g2:(d.id == e.id) = r2:=by
  cases r2 with
  | true => rw [beq_iff_eq]; exact h2.1 rfl
  | false => rw [beq_eq_false_iff_ne]; exact fun q => absurd (h2.2 q) Bool.false_ne_true
 go_big_quiet_step (fail)
 (try simp only [g2])
 go_big_quiet_step (fail)
 (try simp only [Bool.false_eq_true,↓reduceIte])
 go_big_quiet_step (fail)
 (try simp only [Bool.false_eq_true,↓reduceIte])
 clear h2
 cases r2
 case false => (repeat (go_big_quiet_step (fail); (try simp only [Bool.false_eq_true,↓reduceIte]))); refine wpQuiet_nil ?_; rintro _ ⟨y,rfl⟩; have HY:=y.h; go_wp2; go_ret; exact ⟨rfl,G1.out.trans HY⟩
 go_big_quiet_want; (refine quiet_field 51 (.tmp 2) 3 rfl w.heap.size 0 3 rfl (fieldM3 _) ?_); go_big_quiet_on; simp only [Act.put,List.setIfInBounds_toArray,List.set_cons_succ,List.set_cons_zero]
 go_big_quiet_want; (refine quiet_cell 3 (.tmp 25) rfl w.heap.size 3 rfl ka3 _ Tryz.underlying3 rfl ?_); go_big_quiet_on; simp only [Act.put,List.setIfInBounds_toArray,List.set_cons_succ,List.set_cons_zero]
 go_big_quiet_want; (refine quiet_field 51 (.tmp 3) 3 rfl (w.heap.size + 1) 0 3 rfl (fieldM3 _) ?_); go_big_quiet_on; simp only [Act.put,List.setIfInBounds_toArray,List.set_cons_succ,List.set_cons_zero]
 go_big_quiet_want; (refine quiet_cell 3 (.tmp 27) rfl (w.heap.size + 1) 3 rfl kb3 _ Tryz.underlying3 rfl ?_); go_big_quiet_on; simp only [Act.put,List.setIfInBounds_toArray,List.set_cons_succ,List.set_cons_zero]
 have g3:(d.idx == e.idx) = r3:=by
  cases r3 with
  | true => rw [beq_iff_eq]; exact h3.1 rfl
  | false => rw [beq_eq_false_iff_ne]; exact fun q => absurd (h3.2 q) Bool.false_ne_true
 go_big_quiet_step (fail)
 (try simp only [g3])
 go_big_quiet_step (fail)
 (try simp only [Bool.false_eq_true,↓reduceIte])
 go_big_quiet_step (fail)
 (try simp only [Bool.false_eq_true,↓reduceIte])
 clear h3
 cases r3
 case false => (repeat (go_big_quiet_step (fail); (try simp only [Bool.false_eq_true,↓reduceIte]))); refine wpQuiet_nil ?_; rintro _ ⟨y,rfl⟩; have HY:=y.h; go_wp2; go_ret; exact ⟨rfl,G1.out.trans HY⟩
 go_big_quiet_want; (refine quiet_field 51 (.tmp 2) 4 rfl w.heap.size 0 4 rfl (fieldM4 _) ?_); go_big_quiet_on; simp only [Act.put,List.setIfInBounds_toArray,List.set_cons_succ,List.set_cons_zero]
 go_big_quiet_want; (refine quiet_cell 3 (.tmp 32) rfl w.heap.size 4 rfl ka4 _ Tryz.underlying3 rfl ?_); go_big_quiet_on; simp only [Act.put,List.setIfInBounds_toArray,List.set_cons_succ,List.set_cons_zero]
 go_big_quiet_want; (refine quiet_field 51 (.tmp 3) 4 rfl (w.heap.size + 1) 0 4 rfl (fieldM4 _) ?_); go_big_quiet_on; simp only [Act.put,List.setIfInBounds_toArray,List.set_cons_succ,List.set_cons_zero]
 go_big_quiet_want; (refine quiet_cell 3 (.tmp 34) rfl (w.heap.size + 1) 4 rfl kb4 _ Tryz.underlying3 rfl ?_); go_big_quiet_on; simp only [Act.put,List.setIfInBounds_toArray,List.set_cons_succ,List.set_cons_zero]
 have g4:(d.code == e.code) = r4:=by
  cases r4 with
  | true => rw [beq_iff_eq]; exact h4.1 rfl
  | false => rw [beq_eq_false_iff_ne]; exact fun q => absurd (h4.2 q) Bool.false_ne_true
 go_big_quiet_step (fail)
 (try simp only [g4])
 go_big_quiet_step (fail)
 (try simp only [Bool.false_eq_true,↓reduceIte])
 go_big_quiet_step (fail)
 (try simp only [Bool.false_eq_true,↓reduceIte])
 clear h4
 cases r4
 case false => (repeat (go_big_quiet_step (fail); (try simp only [Bool.false_eq_true,↓reduceIte]))); refine wpQuiet_nil ?_; rintro _ ⟨y,rfl⟩; have HY:=y.h; go_wp2; go_ret; exact ⟨rfl,G1.out.trans HY⟩
 go_big_quiet_want; (refine quiet_field 51 (.tmp 2) 5 rfl w.heap.size 0 5 rfl (fieldM5 _) ?_); go_big_quiet_on; simp only [Act.put,List.setIfInBounds_toArray,List.set_cons_succ,List.set_cons_zero]
 go_big_quiet_want; (refine quiet_cell 3 (.tmp 39) rfl w.heap.size 5 rfl ka5 _ Tryz.underlying3 rfl ?_); go_big_quiet_on; simp only [Act.put,List.setIfInBounds_toArray,List.set_cons_succ,List.set_cons_zero]
 go_big_quiet_want; (refine quiet_field 51 (.tmp 3) 5 rfl (w.heap.size + 1) 0 5 rfl (fieldM5 _) ?_); go_big_quiet_on; simp only [Act.put,List.setIfInBounds_toArray,List.set_cons_succ,List.set_cons_zero]
 go_big_quiet_want; (refine quiet_cell 3 (.tmp 41) rfl (w.heap.size + 1) 5 rfl kb5 _ Tryz.underlying3 rfl ?_); go_big_quiet_on; simp only [Act.put,List.setIfInBounds_toArray,List.set_cons_succ,List.set_cons_zero]
 have g5:(d.port == e.port) = r5:=by
  cases r5 with
  | true => rw [beq_iff_eq]; exact h5.1 rfl
  | false => rw [beq_eq_false_iff_ne]; exact fun q => absurd (h5.2 q) Bool.false_ne_true
 go_big_quiet_step (fail)
 (try simp only [g5])
 go_big_quiet_step (fail)
 (try simp only [Bool.false_eq_true,↓reduceIte])
 go_big_quiet_step (fail)
 (try simp only [Bool.false_eq_true,↓reduceIte])
 clear h5
 cases r5
 case false => (repeat (go_big_quiet_step (fail); (try simp only [Bool.false_eq_true,↓reduceIte]))); refine wpQuiet_nil ?_; rintro _ ⟨y,rfl⟩; have HY:=y.h; go_wp2; go_ret; exact ⟨rfl,G1.out.trans HY⟩
 go_big_quiet_want; (refine quiet_field 51 (.tmp 2) 6 rfl w.heap.size 0 6 rfl (fieldM6 _) ?_); go_big_quiet_on; simp only [Act.put,List.setIfInBounds_toArray,List.set_cons_succ,List.set_cons_zero]
 go_big_quiet_want; (refine quiet_cell 3 (.tmp 46) rfl w.heap.size 6 rfl ka6 _ Tryz.underlying3 rfl ?_); go_big_quiet_on; simp only [Act.put,List.setIfInBounds_toArray,List.set_cons_succ,List.set_cons_zero]
 go_big_quiet_want; (refine quiet_field 51 (.tmp 3) 6 rfl (w.heap.size + 1) 0 6 rfl (fieldM6 _) ?_); go_big_quiet_on; simp only [Act.put,List.setIfInBounds_toArray,List.set_cons_succ,List.set_cons_zero]
 go_big_quiet_want; (refine quiet_cell 3 (.tmp 48) rfl (w.heap.size + 1) 6 rfl kb6 _ Tryz.underlying3 rfl ?_); go_big_quiet_on; simp only [Act.put,List.setIfInBounds_toArray,List.set_cons_succ,List.set_cons_zero]
 have g6:(d.tag == e.tag) = r6:=by
  cases r6 with
  | true => rw [beq_iff_eq]; exact h6.1 rfl
  | false => rw [beq_eq_false_iff_ne]; exact fun q => absurd (h6.2 q) Bool.false_ne_true
 go_big_quiet_step (fail)
 (try simp only [g6])
 go_big_quiet_step (fail)
 (try simp only [Bool.false_eq_true,↓reduceIte])
 go_big_quiet_step (fail)
 (try simp only [Bool.false_eq_true,↓reduceIte])
 clear h6
 cases r6
 case false => (repeat (go_big_quiet_step (fail); (try simp only [Bool.false_eq_true,↓reduceIte]))); refine wpQuiet_nil ?_; rintro _ ⟨y,rfl⟩; have HY:=y.h; go_wp2; go_ret; exact ⟨rfl,G1.out.trans HY⟩
 go_big_quiet_want; (refine quiet_field 51 (.tmp 2) 7 rfl w.heap.size 0 7 rfl (fieldM7 _) ?_); go_big_quiet_on; simp only [Act.put,List.setIfInBounds_toArray,List.set_cons_succ,List.set_cons_zero]
 go_big_quiet_want; (refine quiet_cell 28 (.tmp 53) rfl w.heap.size 7 rfl ka7 _ Tryz.underlying28 rfl ?_); go_big_quiet_on; simp only [Act.put,List.setIfInBounds_toArray,List.set_cons_succ,List.set_cons_zero]
 go_big_quiet_want; (refine quiet_field 51 (.tmp 3) 7 rfl (w.heap.size + 1) 0 7 rfl (fieldM7 _) ?_); go_big_quiet_on; simp only [Act.put,List.setIfInBounds_toArray,List.set_cons_succ,List.set_cons_zero]
 go_big_quiet_want; (refine quiet_cell 28 (.tmp 55) rfl (w.heap.size + 1) 7 rfl kb7 _ Tryz.underlying28 rfl ?_); go_big_quiet_on; simp only [Act.put,List.setIfInBounds_toArray,List.set_cons_succ,List.set_cons_zero]
 have g7:(d.n == e.n) = r7:=by
  cases r7 with
  | true => rw [beq_iff_eq]; exact h7.1 rfl
  | false => rw [beq_eq_false_iff_ne]; exact fun q => absurd (h7.2 q) Bool.false_ne_true
 go_big_quiet_step (fail)
 (try simp only [g7])
 go_big_quiet_step (fail)
 (try simp only [Bool.false_eq_true,↓reduceIte])
 go_big_quiet_step (fail)
 (try simp only [Bool.false_eq_true,↓reduceIte])
 clear h7
 cases r7
 case false => (repeat (go_big_quiet_step (fail); (try simp only [Bool.false_eq_true,↓reduceIte]))); refine wpQuiet_nil ?_; rintro _ ⟨y,rfl⟩; have HY:=y.h; go_wp2; go_ret; exact ⟨rfl,G1.out.trans HY⟩
 go_big_quiet_want; (refine quiet_field 51 (.tmp 2) 8 rfl w.heap.size 0 8 rfl (fieldM8 _) ?_); go_big_quiet_on; simp only [Act.put,List.setIfInBounds_toArray,List.set_cons_succ,List.set_cons_zero]
 go_big_quiet_want; (refine quiet_cell 28 (.tmp 60) rfl w.heap.size 8 rfl ka8 _ Tryz.underlying28 rfl ?_); go_big_quiet_on; simp only [Act.put,List.setIfInBounds_toArray,List.set_cons_succ,List.set_cons_zero]
 go_big_quiet_want; (refine quiet_field 51 (.tmp 3) 8 rfl (w.heap.size + 1) 0 8 rfl (fieldM8 _) ?_); go_big_quiet_on; simp only [Act.put,List.setIfInBounds_toArray,List.set_cons_succ,List.set_cons_zero]
 go_big_quiet_want; (refine quiet_cell 28 (.tmp 62) rfl (w.heap.size + 1) 8 rfl kb8 _ Tryz.underlying28 rfl ?_); go_big_quiet_on; simp only [Act.put,List.setIfInBounds_toArray,List.set_cons_succ,List.set_cons_zero]
 have g8:(d.m == e.m) = r8:=by
  cases r8 with
  | true => rw [beq_iff_eq]; exact h8.1 rfl
  | false => rw [beq_eq_false_iff_ne]; exact fun q => absurd (h8.2 q) Bool.false_ne_true
 go_big_quiet_step (fail)
 (try simp only [g8])
 go_big_quiet_step (fail)
 (try simp only [Bool.false_eq_true,↓reduceIte])
 go_big_quiet_step (fail)
 (try simp only [Bool.false_eq_true,↓reduceIte])
 clear h8
 cases r8
 case false => (repeat (go_big_quiet_step (fail); (try simp only [Bool.false_eq_true,↓reduceIte]))); refine wpQuiet_nil ?_; rintro _ ⟨y,rfl⟩; have HY:=y.h; go_wp2; go_ret; exact ⟨rfl,G1.out.trans HY⟩
 go_big_quiet_want; (refine quiet_field 51 (.tmp 2) 9 rfl w.heap.size 0 9 rfl (fieldM9 _) ?_); go_big_quiet_on; simp only [Act.put,List.setIfInBounds_toArray,List.set_cons_succ,List.set_cons_zero]
 go_big_quiet_want; (refine quiet_cell 9 (.tmp 67) rfl w.heap.size 9 rfl ka9 _ Tryz.underlying9 rfl ?_); go_big_quiet_on; simp only [Act.put,List.setIfInBounds_toArray,List.set_cons_succ,List.set_cons_zero]
 go_big_quiet_want; (refine quiet_field 51 (.tmp 3) 9 rfl (w.heap.size + 1) 0 9 rfl (fieldM9 _) ?_); go_big_quiet_on; simp only [Act.put,List.setIfInBounds_toArray,List.set_cons_succ,List.set_cons_zero]
 go_big_quiet_want; (refine quiet_cell 9 (.tmp 69) rfl (w.heap.size + 1) 9 rfl kb9 _ Tryz.underlying9 rfl ?_); go_big_quiet_on; simp only [Act.put,List.setIfInBounds_toArray,List.set_cons_succ,List.set_cons_zero]
 have g9:(d.data.toList == e.data.toList) = r9:=by
  cases r9 with
  | true => rw [h9.1 rfl]; exact beq_self_eq_true _
  | false => rw [beq_eq_false_iff_ne,ByteArray.toList_eq,ByteArray.toList_eq]; exact fun q => absurd (h9.2 (ba_ext q)) Bool.false_ne_true
 go_big_quiet_step (fail)
 (try simp only [g9])
 go_big_quiet_step (fail)
 (try simp only [Bool.false_eq_true,↓reduceIte])
 go_big_quiet_step (fail)
 (try simp only [Bool.false_eq_true,↓reduceIte])
 clear h9
 cases r9
 case false => (repeat (go_big_quiet_step (fail); (try simp only [Bool.false_eq_true,↓reduceIte]))); refine wpQuiet_nil ?_; rintro _ ⟨y,rfl⟩; have HY:=y.h; go_wp2; go_ret; exact ⟨rfl,G1.out.trans HY⟩
 go_big_quiet_want; (refine quiet_field 51 (.tmp 2) 10 rfl w.heap.size 0 10 rfl (fieldM10 _) ?_); go_big_quiet_on; simp only [Act.put,List.setIfInBounds_toArray,List.set_cons_succ,List.set_cons_zero]
 go_big_quiet_want; (refine quiet_cell 29 (.tmp 74) rfl w.heap.size 10 rfl ka10 _ Tryz.underlying29 rfl ?_); go_big_quiet_on; simp only [Act.put,List.setIfInBounds_toArray,List.set_cons_succ,List.set_cons_zero]
 go_big_quiet_want; (refine quiet_field 51 (.tmp 3) 10 rfl (w.heap.size + 1) 0 10 rfl (fieldM10 _) ?_); go_big_quiet_on; simp only [Act.put,List.setIfInBounds_toArray,List.set_cons_succ,List.set_cons_zero]
 go_big_quiet_want; (refine quiet_cell 29 (.tmp 76) rfl (w.heap.size + 1) 10 rfl kb10 _ Tryz.underlying29 rfl ?_); go_big_quiet_on; simp only [Act.put,List.setIfInBounds_toArray,List.set_cons_succ,List.set_cons_zero]
 go_big_quiet_step (first | (go_at_call 43; exact quiet_after (zw _)))
 go_big_quiet_step (fail)
 (try simp only [Bool.false_eq_true,↓reduceIte])
 go_big_quiet_step (fail)
 (try simp only [Bool.false_eq_true,↓reduceIte])
 cases r10
 case false => (repeat (go_big_quiet_step (fail); (try simp only [Bool.false_eq_true,↓reduceIte]))); refine wpQuiet_nil ?_; rintro _ ⟨y,rfl⟩; have HY:=y.h; go_wp2; go_ret; exact ⟨rfl,G1.out.trans HY⟩
 go_big_quiet_want; (refine quiet_field 51 (.tmp 2) 11 rfl w.heap.size 0 11 rfl (fieldM11 _) ?_); go_big_quiet_on; simp only [Act.put,List.setIfInBounds_toArray,List.set_cons_succ,List.set_cons_zero]
 go_big_quiet_want; (refine quiet_load 32 (.tmp 81) rfl w.heap.size 11 9 20 rfl rfl _ hX (by rw [sM]; decide) Tryz.underlying32 rfl (by kernel_rfl) ?_); go_big_quiet_on; simp only [Act.put,List.setIfInBounds_toArray,List.set_cons_succ,List.set_cons_zero]
 go_big_quiet_want; (refine quiet_field 51 (.tmp 3) 11 rfl (w.heap.size + 1) 0 11 rfl (fieldM11 _) ?_); go_big_quiet_on; simp only [Act.put,List.setIfInBounds_toArray,List.set_cons_succ,List.set_cons_zero]
 go_big_quiet_want; (refine quiet_load 32 (.tmp 83) rfl (w.heap.size + 1) 11 9 20 rfl rfl _ hY (by rw [sN]; decide) Tryz.underlying32 rfl (by kernel_rfl) ?_); go_big_quiet_on; simp only [Act.put,List.setIfInBounds_toArray,List.set_cons_succ,List.set_cons_zero]
 go_big_quiet_step (first | (go_at_call 44; exact quiet_after ((R0.on (After.h _)).same (Q0.on (After.h _)) h11)))
 go_big_quiet_step (fail)
 (try simp only [Bool.false_eq_true,↓reduceIte])
 go_big_quiet_step (fail)
 (try simp only [Bool.false_eq_true,↓reduceIte])
 clear h11
 cases r11
 case false => (repeat (go_big_quiet_step (fail); (try simp only [Bool.false_eq_true,↓reduceIte]))); refine wpQuiet_nil ?_; rintro _ ⟨y,rfl⟩; have HY:=y.h; go_wp2; go_ret; exact ⟨rfl,G1.out.trans HY⟩
 go_big_quiet_want; (refine quiet_field 51 (.tmp 2) 12 rfl w.heap.size 0 20 rfl (fieldM12 _) ?_); go_big_quiet_on; simp only [Act.put,List.setIfInBounds_toArray,List.set_cons_succ,List.set_cons_zero]
 go_big_quiet_want; (refine quiet_load 34 (.tmp 88) rfl w.heap.size 20 5 25 rfl rfl _ hX (by rw [sM]; decide) Tryz.underlying34 rfl (by kernel_rfl) ?_); go_big_quiet_on; simp only [Act.put,List.setIfInBounds_toArray,List.set_cons_succ,List.set_cons_zero]
 go_big_quiet_want; (refine quiet_field 51 (.tmp 3) 12 rfl (w.heap.size + 1) 0 20 rfl (fieldM12 _) ?_); go_big_quiet_on; simp only [Act.put,List.setIfInBounds_toArray,List.set_cons_succ,List.set_cons_zero]
 go_big_quiet_want; (refine quiet_load 34 (.tmp 90) rfl (w.heap.size + 1) 20 5 25 rfl rfl _ hY (by rw [sN]; decide) Tryz.underlying34 rfl (by kernel_rfl) ?_); go_big_quiet_on; simp only [Act.put,List.setIfInBounds_toArray,List.set_cons_succ,List.set_cons_zero]
 go_big_quiet_step (first | (go_at_call 45; exact quiet_after ((R1.on (After.h _)).same (Q1.on (After.h _)) h12)))
 go_big_quiet_step (fail)
 (try simp only [Bool.false_eq_true,↓reduceIte])
 go_big_quiet_step (fail)
 (try simp only [Bool.false_eq_true,↓reduceIte])
 clear h12
 cases r12
 case false => (repeat (go_big_quiet_step (fail); (try simp only [Bool.false_eq_true,↓reduceIte]))); refine wpQuiet_nil ?_; rintro _ ⟨y,rfl⟩; have HY:=y.h; go_wp2; go_ret; exact ⟨rfl,G1.out.trans HY⟩
 go_big_quiet_want; (refine quiet_field 51 (.tmp 2) 13 rfl w.heap.size 0 25 rfl (fieldM13 _) ?_); go_big_quiet_on; simp only [Act.put,List.setIfInBounds_toArray,List.set_cons_succ,List.set_cons_zero]
 go_big_quiet_want; (refine quiet_load 37 (.tmp 95) rfl w.heap.size 25 5 30 rfl rfl _ hX (by rw [sM]; decide) Tryz.underlying37 rfl (by kernel_rfl) ?_); go_big_quiet_on; simp only [Act.put,List.setIfInBounds_toArray,List.set_cons_succ,List.set_cons_zero]
 go_big_quiet_want; (refine quiet_field 51 (.tmp 3) 13 rfl (w.heap.size + 1) 0 25 rfl (fieldM13 _) ?_); go_big_quiet_on; simp only [Act.put,List.setIfInBounds_toArray,List.set_cons_succ,List.set_cons_zero]
 go_big_quiet_want; (refine quiet_load 37 (.tmp 97) rfl (w.heap.size + 1) 25 5 30 rfl rfl _ hY (by rw [sN]; decide) Tryz.underlying37 rfl (by kernel_rfl) ?_); go_big_quiet_on; simp only [Act.put,List.setIfInBounds_toArray,List.set_cons_succ,List.set_cons_zero]
 go_big_quiet_step (first | (go_at_call 46; exact quiet_after ((R2.on (After.h _)).same (Q2.on (After.h _)) h13)))
 go_big_quiet_step (fail)
 (try simp only [Bool.false_eq_true,↓reduceIte])
 go_big_quiet_step (fail)
 (try simp only [Bool.false_eq_true,↓reduceIte])
 clear h13
 cases r13
 case false => (repeat (go_big_quiet_step (fail); (try simp only [Bool.false_eq_true,↓reduceIte]))); refine wpQuiet_nil ?_; rintro _ ⟨y,rfl⟩; have HY:=y.h; go_wp2; go_ret; exact ⟨rfl,G1.out.trans HY⟩
 go_big_quiet_want; (refine quiet_field 51 (.tmp 2) 14 rfl w.heap.size 0 30 rfl (fieldM14 _) ?_); go_big_quiet_on; simp only [Act.put,List.setIfInBounds_toArray,List.set_cons_succ,List.set_cons_zero]
 go_big_quiet_want; (refine quiet_load 39 (.tmp 102) rfl w.heap.size 30 11 41 rfl rfl _ hX (by rw [sM]; decide) Tryz.underlying39 rfl (by kernel_rfl) ?_); go_big_quiet_on; simp only [Act.put,List.setIfInBounds_toArray,List.set_cons_succ,List.set_cons_zero]
 go_big_quiet_want; (refine quiet_field 51 (.tmp 3) 14 rfl (w.heap.size + 1) 0 30 rfl (fieldM14 _) ?_); go_big_quiet_on; simp only [Act.put,List.setIfInBounds_toArray,List.set_cons_succ,List.set_cons_zero]
 go_big_quiet_want; (refine quiet_load 39 (.tmp 104) rfl (w.heap.size + 1) 30 11 41 rfl rfl _ hY (by rw [sN]; decide) Tryz.underlying39 rfl (by kernel_rfl) ?_); go_big_quiet_on; simp only [Act.put,List.setIfInBounds_toArray,List.set_cons_succ,List.set_cons_zero]
 go_big_quiet_step (first | (go_at_call 47; exact quiet_after ((R3.on (After.h _)).same (Q3.on (After.h _)) h14)))
 go_big_quiet_step (fail)
 (try simp only [Bool.false_eq_true,↓reduceIte])
 go_big_quiet_step (fail)
 (try simp only [Bool.false_eq_true,↓reduceIte])
 clear h14
 cases r14
 case false => (repeat (go_big_quiet_step (fail); (try simp only [Bool.false_eq_true,↓reduceIte]))); refine wpQuiet_nil ?_; rintro _ ⟨y,rfl⟩; have HY:=y.h; go_wp2; go_ret; exact ⟨rfl,G1.out.trans HY⟩
 go_big_quiet_want; (refine quiet_field 51 (.tmp 2) 15 rfl w.heap.size 0 41 rfl (fieldM15 _) ?_); go_big_quiet_on; simp only [Act.put,List.setIfInBounds_toArray,List.set_cons_succ,List.set_cons_zero]
 go_big_quiet_want; (refine quiet_load 42 (.tmp 109) rfl w.heap.size 41 2 43 rfl rfl _ hX (by rw [sM]; decide) Tryz.underlying42 rfl (by kernel_rfl) ?_); go_big_quiet_on; simp only [Act.put,List.setIfInBounds_toArray,List.set_cons_succ,List.set_cons_zero]
 go_big_quiet_want; (refine quiet_field 51 (.tmp 3) 15 rfl (w.heap.size + 1) 0 41 rfl (fieldM15 _) ?_); go_big_quiet_on; simp only [Act.put,List.setIfInBounds_toArray,List.set_cons_succ,List.set_cons_zero]
 go_big_quiet_want; (refine quiet_load 42 (.tmp 111) rfl (w.heap.size + 1) 41 2 43 rfl rfl _ hY (by rw [sN]; decide) Tryz.underlying42 rfl (by kernel_rfl) ?_); go_big_quiet_on; simp only [Act.put,List.setIfInBounds_toArray,List.set_cons_succ,List.set_cons_zero]
 go_big_quiet_step (first | (go_at_call 48; exact quiet_after ((R4.on (After.h _)).same (Q4.on (After.h _)) h15)))
 go_big_quiet_step (fail)
 (try simp only [Bool.false_eq_true,↓reduceIte])
 go_big_quiet_step (fail)
 (try simp only [Bool.false_eq_true,↓reduceIte])
 clear h15
 cases r15
 case false => (repeat (go_big_quiet_step (fail); (try simp only [Bool.false_eq_true,↓reduceIte]))); refine wpQuiet_nil ?_; rintro _ ⟨y,rfl⟩; have HY:=y.h; go_wp2; go_ret; exact ⟨rfl,G1.out.trans HY⟩
 go_big_quiet_want; (refine quiet_field 51 (.tmp 2) 16 rfl w.heap.size 0 43 rfl (fieldM16 _) ?_); go_big_quiet_on; simp only [Act.put,List.setIfInBounds_toArray,List.set_cons_succ,List.set_cons_zero]
 go_big_quiet_want; (refine quiet_load 45 (.tmp 116) rfl w.heap.size 43 4 47 rfl rfl _ hX (by rw [sM]; decide) Tryz.underlying45 rfl (by kernel_rfl) ?_); go_big_quiet_on; simp only [Act.put,List.setIfInBounds_toArray,List.set_cons_succ,List.set_cons_zero]
 go_big_quiet_want; (refine quiet_field 51 (.tmp 3) 16 rfl (w.heap.size + 1) 0 43 rfl (fieldM16 _) ?_); go_big_quiet_on; simp only [Act.put,List.setIfInBounds_toArray,List.set_cons_succ,List.set_cons_zero]
 go_big_quiet_want; (refine quiet_load 45 (.tmp 118) rfl (w.heap.size + 1) 43 4 47 rfl rfl _ hY (by rw [sN]; decide) Tryz.underlying45 rfl (by kernel_rfl) ?_); go_big_quiet_on; simp only [Act.put,List.setIfInBounds_toArray,List.set_cons_succ,List.set_cons_zero]
 go_big_quiet_step (first | (go_at_call 49; exact quiet_after ((R5.on (After.h _)).same (Q5.on (After.h _)) h16)))
 go_big_quiet_step (fail)
 (try simp only [Bool.false_eq_true,↓reduceIte])
 go_big_quiet_step (fail)
 (try simp only [Bool.false_eq_true,↓reduceIte])
 clear h16
 cases r16
 case false => (repeat (go_big_quiet_step (fail); (try simp only [Bool.false_eq_true,↓reduceIte]))); refine wpQuiet_nil ?_; rintro _ ⟨y,rfl⟩; have HY:=y.h; go_wp2; go_ret; exact ⟨rfl,G1.out.trans HY⟩
 go_big_quiet_want; (refine quiet_field 51 (.tmp 2) 17 rfl w.heap.size 0 47 rfl (fieldM17 _) ?_); go_big_quiet_on; simp only [Act.put,List.setIfInBounds_toArray,List.set_cons_succ,List.set_cons_zero]
 go_big_quiet_want; (refine quiet_load 47 (.tmp 123) rfl w.heap.size 47 3 50 rfl rfl _ hX (by rw [sM]; decide) Tryz.underlying47 rfl (by kernel_rfl) ?_); go_big_quiet_on; simp only [Act.put,List.setIfInBounds_toArray,List.set_cons_succ,List.set_cons_zero]
 go_big_quiet_want; (refine quiet_field 51 (.tmp 3) 17 rfl (w.heap.size + 1) 0 47 rfl (fieldM17 _) ?_); go_big_quiet_on; simp only [Act.put,List.setIfInBounds_toArray,List.set_cons_succ,List.set_cons_zero]
 go_big_quiet_want; (refine quiet_load 47 (.tmp 125) rfl (w.heap.size + 1) 47 3 50 rfl rfl _ hY (by rw [sN]; decide) Tryz.underlying47 rfl (by kernel_rfl) ?_); go_big_quiet_on; simp only [Act.put,List.setIfInBounds_toArray,List.set_cons_succ,List.set_cons_zero]
 go_big_quiet_step (first | (go_at_call 50; exact quiet_after ((R6.on (After.h _)).same (Q6.on (After.h _)) h17)))
 go_big_quiet_step (fail)
 (try simp only [Bool.false_eq_true,↓reduceIte])
 go_big_quiet_step (fail)
 (try simp only [Bool.false_eq_true,↓reduceIte])
 clear h17
 cases r17
 case false => (repeat (go_big_quiet_step (fail); (try simp only [Bool.false_eq_true,↓reduceIte]))); refine wpQuiet_nil ?_; rintro _ ⟨y,rfl⟩; have HY:=y.h; go_wp2; go_ret; exact ⟨rfl,G1.out.trans HY⟩
 go_big_quiet_want; (refine quiet_field 51 (.tmp 2) 18 rfl w.heap.size 0 50 rfl (fieldM18 _) ?_); go_big_quiet_on; simp only [Act.put,List.setIfInBounds_toArray,List.set_cons_succ,List.set_cons_zero]
 go_big_quiet_want; (refine quiet_load 49 (.tmp 130) rfl w.heap.size 50 2 52 rfl rfl _ hX (by rw [sM]; decide) Tryz.underlying49 rfl (by kernel_rfl) ?_); go_big_quiet_on; simp only [Act.put,List.setIfInBounds_toArray,List.set_cons_succ,List.set_cons_zero]
 go_big_quiet_want; (refine quiet_field 51 (.tmp 3) 18 rfl (w.heap.size + 1) 0 50 rfl (fieldM18 _) ?_); go_big_quiet_on; simp only [Act.put,List.setIfInBounds_toArray,List.set_cons_succ,List.set_cons_zero]
 go_big_quiet_want; (refine quiet_load 49 (.tmp 132) rfl (w.heap.size + 1) 50 2 52 rfl rfl _ hY (by rw [sN]; decide) Tryz.underlying49 rfl (by kernel_rfl) ?_); go_big_quiet_on; simp only [Act.put,List.setIfInBounds_toArray,List.set_cons_succ,List.set_cons_zero]
 go_big_quiet_step (first | (go_at_call 51; exact quiet_after ((R7.on (After.h _)).same (Q7.on (After.h _)) h18)))
 go_big_quiet_step (fail)
 (try simp only [Bool.false_eq_true,↓reduceIte])
 clear h18
 cases r18
 case false => (repeat (go_big_quiet_step (fail); (try simp only [Bool.false_eq_true,↓reduceIte]))); refine wpQuiet_nil ?_; rintro _ ⟨y,rfl⟩; have HY:=y.h; go_wp2; go_ret; exact ⟨rfl,G1.out.trans HY⟩
 (repeat (go_big_quiet_step (fail); (try simp only [Bool.false_eq_true,↓reduceIte]))); refine wpQuiet_nil ?_; rintro _ ⟨y,rfl⟩; have HY:=y.h; go_wp2; go_ret; exact ⟨rfl,G1.out.trans HY⟩
end Go.Proofs.YtoopdhgmdjienaaGreatDoor
