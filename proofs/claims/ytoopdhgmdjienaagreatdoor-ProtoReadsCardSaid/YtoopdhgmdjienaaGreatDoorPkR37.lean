/- OReadMeter OReadRegs -/
import Derived.Test.YtoopdhgmdjienaaGreatDoorPkR05
namespace Go.Proofs.YtoopdhgmdjienaaGreatDoor
set_option linter.unusedVariables false
open Go.ChangeShapes Go.WideShapes Go.ChangeAt Go.RowKit Go.Joins
open Go.ChangeMaps (open_string shut_string)
set_option maxHeartbeats 64000000
set_option maxRecDepth 4000 in
theorem oreadMeter_c (s:ByteArray) (w:World) (hs:s.size < 1000000) {v0 v1 v2:Int} {r:Nat} (hr:decG csMeter s.data.toList = ([ValN.num v0,ValN.num v1,ValN.num v2],r)) :
 Calls Tryz.prog 147 #[.string s] w fun e w' => e = .returned (.tuple #[.agg #[.int .i64 v0,.int .i64 v1,.int .i64 v2],.int .i64 (r:Int)]) ∧ Wider w w':=by
 obtain ⟨m,c,hd⟩ : ∃ m c,decA [] 0 s.data.toList = (m,c):=⟨_,_,rfl⟩
 have H0:=((Own.nil (Wider.refl w)).blk #[.int .i64 0,.int .i64 0,.int .i64 0] 47).blk #[.int .i64 0,.int .i64 0,.int .i64 0] 47
 have hz:(w.alloc (.cells #[.int .i64 0,.int .i64 0,.int .i64 0] 47)).heap.size = w.heap.size + 1:=by simp
 rw [hz] at H0
 have HR:=Lib.hid hr
 have hl:=decA_few hd
 obtain ⟨n,hn⟩ : ∃ n,m.length = n:=⟨_,rfl⟩
 rw [hn] at hl
 have HM:=Lib.hid hn
 have zd:=fun W:World => odec_c s W hs hd hn
 have HD:=Lib.hid hd
 clear hr hz hd hn
 by_cases c0:c = 0
 · subst c0
   go_enter Tryz.func147,Tryz.ntmps147
   go_wp2_with (go_at_call 31; ((with_reducible refine (zd _).mono ?_); rintro e w2 ⟨A,cp,rfl,g2,h2⟩; have H1:=H0.row g2 h2))
   clear H0 zd g2 h2
   go_loopw [7] (fun i wr => ∃ j:Nat,j ≤ n ∧ i = .int .i64 (j:Int) ∧ ∃ u0 u1 u2:Int,Own w wr [rowT 77 2 (.slice A n cp) n (cellsA m),blkT (w.heap.size + 1) #[.int .i64 u0,.int .i64 u1,.int .i64 u2] 47,blkT w.heap.size #[.int .i64 0,.int .i64 0,.int .i64 0] 47] ∧ Hid (readG csMeter (zeroG csMeter) (m.take j) = some [ValN.num u0,ValN.num u1,ValN.num u2])) (fun i _ => n - (intOf i).toNat)
   case atStart => exact ⟨0,by omega,by simp,0,0,0,H1,rfl⟩
   case round =>
    obtain ⟨j,hj,rfl,u0,u1,u2,H,HG⟩:=hrel
    have HQ:=Lib.hid H1
    clear H1
    by_cases cj:j < n
    · have j0:(0:Int) ≤ (j:Int):=by omega
      have j1:(j:Int) < (n:Int):=by omega
      obtain ⟨x,hx⟩:=next_some m j (by rw [HM.out]; exact cj)
      obtain ⟨A',cp',ea,ha,_⟩:=atsAt_own H.head
      injection ea with ea1 ea2 ea3
      subst ea1 ea3
      cases A with
      | none => exact absurd (ha.none_ rfl) (by intro e; rw [e] at hx; simp at hx)
      | some a =>
        have hA:=ha.cell a rfl j x hx
        have HX:=Lib.hid hx
        have HS:Hid (readG csMeter (zeroG csMeter) (m.take (j + 1)) = stepG csMeter [ValN.num u0,ValN.num u1,ValN.num u2] x):=readG_next HG.out hx
        have HN:stepG csMeter [ValN.num u0,ValN.num u1,ValN.num u2] x = none → ([ValN.num v0,ValN.num v1,ValN.num v2] = [ValN.num 0,ValN.num 0,ValN.num 0] ∧ r = 3):=fun e => by
         have q:=HR.out
         rw [decG_none HD.out (readG_stuck HG.out hx e)] at q
         injection q with q1 q2
         exact ⟨q1.symm,q2.symm⟩
        have sz:x.v.size < 1000000:=attr_small HD.out hs hx
        clear hx ha
        obtain ⟨t,q⟩:=x
        have ⟨k0,k1⟩:=hA
        have k2:=hA.flat
        simp only at k0 k1 k2 sz
        clear hA
        by_cases t0:t = 1
        · subst t0
          have e0:(((1:Nat):Int) == 1) = true:=by decide
          obtain ⟨y,z,hyz⟩ : ∃ y z,rnumN q.data.toList 2147483647 = (y,z):=⟨_,_,rfl⟩
          by_cases z0:z = 0
          · subst z0
            have hle:=(rnum_inv _ _ _ hyz).1
            have zr:=fun W:World => oread_c q 2147483647 2147483647 rfl W sz (by decide) (b:=true) hyz (by simp)
            have HS2:Hid (readG csMeter (zeroG csMeter) (m.take (j + 1)) = some [ValN.num (y:Int),ValN.num u1,ValN.num u2]):=by
             show _ = _
             rw [HS.out]
             exact step_at (show codeAt csMeter 1 = some nI from rfl) (numV_yes hyz)
            have w1:IntKind.i64.wrap (y:Int) = (y:Int):=by simp [IntKind.wrap,IntKind.bits,IntKind.signed]; omega
            clear HS HN hyz
            go_wp2_with (go_at_call 176; ((with_reducible refine (zr _).mono ?_); rintro e w3 ⟨rfl,g3⟩; have H3:=H.quiet g3; have kx:=blk_cell H3.second 0 (v:=.int .i64 u0) rfl; have fx:=blk_free H3.second 0))
            have H4:=(H3.swap.store 0 (.int .i64 (y:Int))).swap
            go_roundw
            case rel => exact ⟨j + 1,by omega,by go_num,(y:Int),u1,u2,H4,HS2⟩
            case measure => simp [intOf]; omega
          · obtain ⟨rfl,rfl⟩ : y = 0 ∧ z = 3:=by
             rcases rnum_codes q.data.toList 2147483647 with k | k
             · rw [hyz] at k; exact absurd k z0
             · rw [hyz] at k; injection k with k1 k2; exact ⟨k1,k2⟩
            have zr:=fun W:World => oread_c q 2147483647 2147483647 rfl W sz (by decide) (b:=false) hyz (by simp)
            have hst:stepG csMeter [ValN.num u0,ValN.num u1,ValN.num u2] ⟨1,q⟩ = none:=by
             exact step_bad (show codeAt csMeter 1 = some nI from rfl) (numV_no hyz)
            obtain ⟨hv,rfl⟩:=HN hst
            simp only [ValN.num.injEq,List.cons.injEq,and_true] at hv
            obtain ⟨rfl,rfl,rfl⟩:=hv
            clear HS HN hst HR HG
            go_wp2_with (go_at_call 176; ((with_reducible refine (zr _).mono ?_); rintro e w3 ⟨rfl,g3⟩; have H3:=H.quiet g3; have kx:=blk_cell H3.second 0 (v:=.int .i64 u0) rfl; have fx:=blk_free H3.second 0; have kr0:=blk_cell H3.drop.second 0 (v:=.int .i64 0) rfl; have fr0:=blk_free H3.drop.second 0; have kr1:=blk_cell H3.drop.second 1 (v:=.int .i64 0) rfl; have fr1:=blk_free H3.drop.second 1; have kr2:=blk_cell H3.drop.second 2 (v:=.int .i64 0) rfl; have fr2:=blk_free H3.drop.second 2))
            have H5:=((((H3.swap.store 0 (.int .i64 0)).third.store 0 (.int .i64 0)).store 1 (.int .i64 0)).store 2 (.int .i64 0))
            have d100:=blk_cell H5.head 0 (v:=.int .i64 0) rfl
            have d101:=blk_cell H5.head 1 (v:=.int .i64 0) rfl
            have d102:=blk_cell H5.head 2 (v:=.int .i64 0) rfl
            simp [bodyPost,results,Tryz.results147,go_sem,d100,d101,d102]
            exact H5.wider
        by_cases t1:t = 2
        · subst t1
          have e0:(((2:Nat):Int) == 1) = false:=by decide
          have e1:(((2:Nat):Int) == 2) = true:=by decide
          obtain ⟨y,z,hyz⟩ : ∃ y z,rnumN q.data.toList 9223372036854775807 = (y,z):=⟨_,_,rfl⟩
          by_cases z0:z = 0
          · subst z0
            have hle:=(rnum_inv _ _ _ hyz).1
            have zr:=fun W:World => oread_c q 9223372036854775807 9223372036854775807 rfl W sz (by decide) (b:=true) hyz (by simp)
            have HS2:Hid (readG csMeter (zeroG csMeter) (m.take (j + 1)) = some [ValN.num u0,ValN.num (y:Int),ValN.num u2]):=by
             show _ = _
             rw [HS.out]
             exact step_at (show codeAt csMeter 2 = some nL from rfl) (numV_yes hyz)
            have w1:IntKind.i64.wrap (y:Int) = (y:Int):=by simp [IntKind.wrap,IntKind.bits,IntKind.signed]; omega
            clear HS HN hyz
            go_wp2_with (go_at_call 176; ((with_reducible refine (zr _).mono ?_); rintro e w3 ⟨rfl,g3⟩; have H3:=H.quiet g3; have kx:=blk_cell H3.second 1 (v:=.int .i64 u1) rfl; have fx:=blk_free H3.second 1))
            have H4:=(H3.swap.store 1 (.int .i64 (y:Int))).swap
            go_roundw
            case rel => exact ⟨j + 1,by omega,by go_num,u0,(y:Int),u2,H4,HS2⟩
            case measure => simp [intOf]; omega
          · obtain ⟨rfl,rfl⟩ : y = 0 ∧ z = 3:=by
             rcases rnum_codes q.data.toList 9223372036854775807 with k | k
             · rw [hyz] at k; exact absurd k z0
             · rw [hyz] at k; injection k with k1 k2; exact ⟨k1,k2⟩
            have zr:=fun W:World => oread_c q 9223372036854775807 9223372036854775807 rfl W sz (by decide) (b:=false) hyz (by simp)
            have hst:stepG csMeter [ValN.num u0,ValN.num u1,ValN.num u2] ⟨2,q⟩ = none:=by
             exact step_bad (show codeAt csMeter 2 = some nL from rfl) (numV_no hyz)
            obtain ⟨hv,rfl⟩:=HN hst
            simp only [ValN.num.injEq,List.cons.injEq,and_true] at hv
            obtain ⟨rfl,rfl,rfl⟩:=hv
            clear HS HN hst HR HG
            go_wp2_with (go_at_call 176; ((with_reducible refine (zr _).mono ?_); rintro e w3 ⟨rfl,g3⟩; have H3:=H.quiet g3; have kx:=blk_cell H3.second 1 (v:=.int .i64 u1) rfl; have fx:=blk_free H3.second 1; have kr0:=blk_cell H3.drop.second 0 (v:=.int .i64 0) rfl; have fr0:=blk_free H3.drop.second 0; have kr1:=blk_cell H3.drop.second 1 (v:=.int .i64 0) rfl; have fr1:=blk_free H3.drop.second 1; have kr2:=blk_cell H3.drop.second 2 (v:=.int .i64 0) rfl; have fr2:=blk_free H3.drop.second 2))
            have H5:=((((H3.swap.store 1 (.int .i64 0)).third.store 0 (.int .i64 0)).store 1 (.int .i64 0)).store 2 (.int .i64 0))
            have d100:=blk_cell H5.head 0 (v:=.int .i64 0) rfl
            have d101:=blk_cell H5.head 1 (v:=.int .i64 0) rfl
            have d102:=blk_cell H5.head 2 (v:=.int .i64 0) rfl
            simp [bodyPost,results,Tryz.results147,go_sem,d100,d101,d102]
            exact H5.wider
        by_cases t2:t = 3
        · subst t2
          have e0:(((3:Nat):Int) == 1) = false:=by decide
          have e1:(((3:Nat):Int) == 2) = false:=by decide
          have e2:(((3:Nat):Int) == 3) = true:=by decide
          obtain ⟨y,z,hyz⟩ : ∃ y z,rnumN q.data.toList 9223372036854775807 = (y,z):=⟨_,_,rfl⟩
          by_cases z0:z = 0
          · subst z0
            have hle:=(rnum_inv _ _ _ hyz).1
            have zr:=fun W:World => oread_c q 9223372036854775807 9223372036854775807 rfl W sz (by decide) (b:=true) hyz (by simp)
            have HS2:Hid (readG csMeter (zeroG csMeter) (m.take (j + 1)) = some [ValN.num u0,ValN.num u1,ValN.num (y:Int)]):=by
             show _ = _
             rw [HS.out]
             exact step_at (show codeAt csMeter 3 = some nL from rfl) (numV_yes hyz)
            have w1:IntKind.i64.wrap (y:Int) = (y:Int):=by simp [IntKind.wrap,IntKind.bits,IntKind.signed]; omega
            clear HS HN hyz
            go_wp2_with (go_at_call 176; ((with_reducible refine (zr _).mono ?_); rintro e w3 ⟨rfl,g3⟩; have H3:=H.quiet g3; have kx:=blk_cell H3.second 2 (v:=.int .i64 u2) rfl; have fx:=blk_free H3.second 2))
            have H4:=(H3.swap.store 2 (.int .i64 (y:Int))).swap
            go_roundw
            case rel => exact ⟨j + 1,by omega,by go_num,u0,u1,(y:Int),H4,HS2⟩
            case measure => simp [intOf]; omega
          · obtain ⟨rfl,rfl⟩ : y = 0 ∧ z = 3:=by
             rcases rnum_codes q.data.toList 9223372036854775807 with k | k
             · rw [hyz] at k; exact absurd k z0
             · rw [hyz] at k; injection k with k1 k2; exact ⟨k1,k2⟩
            have zr:=fun W:World => oread_c q 9223372036854775807 9223372036854775807 rfl W sz (by decide) (b:=false) hyz (by simp)
            have hst:stepG csMeter [ValN.num u0,ValN.num u1,ValN.num u2] ⟨3,q⟩ = none:=by
             exact step_bad (show codeAt csMeter 3 = some nL from rfl) (numV_no hyz)
            obtain ⟨hv,rfl⟩:=HN hst
            simp only [ValN.num.injEq,List.cons.injEq,and_true] at hv
            obtain ⟨rfl,rfl,rfl⟩:=hv
            clear HS HN hst HR HG
            go_wp2_with (go_at_call 176; ((with_reducible refine (zr _).mono ?_); rintro e w3 ⟨rfl,g3⟩; have H3:=H.quiet g3; have kx:=blk_cell H3.second 2 (v:=.int .i64 u2) rfl; have fx:=blk_free H3.second 2; have kr0:=blk_cell H3.drop.second 0 (v:=.int .i64 0) rfl; have fr0:=blk_free H3.drop.second 0; have kr1:=blk_cell H3.drop.second 1 (v:=.int .i64 0) rfl; have fr1:=blk_free H3.drop.second 1; have kr2:=blk_cell H3.drop.second 2 (v:=.int .i64 0) rfl; have fr2:=blk_free H3.drop.second 2))
            have H5:=((((H3.swap.store 2 (.int .i64 0)).third.store 0 (.int .i64 0)).store 1 (.int .i64 0)).store 2 (.int .i64 0))
            have d100:=blk_cell H5.head 0 (v:=.int .i64 0) rfl
            have d101:=blk_cell H5.head 1 (v:=.int .i64 0) rfl
            have d102:=blk_cell H5.head 2 (v:=.int .i64 0) rfl
            simp [bodyPost,results,Tryz.results147,go_sem,d100,d101,d102]
            exact H5.wider
        have e0:((t:Int) == 1) = false:=by rw [beq_eq_false_iff_ne]; omega
        have e1:((t:Int) == 2) = false:=by rw [beq_eq_false_iff_ne]; omega
        have e2:((t:Int) == 3) = false:=by rw [beq_eq_false_iff_ne]; omega
        have hst:stepG csMeter [ValN.num u0,ValN.num u1,ValN.num u2] ⟨t,q⟩ = none:=step_none (by show ¬ (1 ≤ t ∧ t ≤ 3); omega)
        obtain ⟨hv,rfl⟩:=HN hst
        simp only [ValN.num.injEq,List.cons.injEq,and_true] at hv
        obtain ⟨rfl,rfl,rfl⟩:=hv
        clear HS HN hst HR HG
        have kr0:=blk_cell H.drop.second 0 (v:=.int .i64 0) rfl
        have fr0:=blk_free H.drop.second 0
        have kr1:=blk_cell H.drop.second 1 (v:=.int .i64 0) rfl
        have fr1:=blk_free H.drop.second 1
        have kr2:=blk_cell H.drop.second 2 (v:=.int .i64 0) rfl
        have fr2:=blk_free H.drop.second 2
        go_wp2
        have H5:=(((H.third.store 0 (.int .i64 0)).store 1 (.int .i64 0)).store 2 (.int .i64 0))
        have d100:=blk_cell H5.head 0 (v:=.int .i64 0) rfl
        have d101:=blk_cell H5.head 1 (v:=.int .i64 0) rfl
        have d102:=blk_cell H5.head 2 (v:=.int .i64 0) rfl
        simp [bodyPost,results,Tryz.results147,go_sem,d100,d101,d102]
        exact H5.wider
    · obtain rfl:j = n:=by omega
      have q:=HR.out
      have q2:=HG.out
      rw [List.take_of_length_le (by rw [HM.out]; exact Nat.le_refl _)] at q2
      rw [decG_some HD.out q2] at q
      injection q with q3 q4
      subst q4
      simp only [ValN.num.injEq,List.cons.injEq,and_true] at q3
      obtain ⟨rfl,rfl,rfl⟩:=q3
      have kx0:=blk_cell H.second 0 (v:=.int .i64 u0) rfl
      have kr0:=blk_cell H.drop.second 0 (v:=.int .i64 0) rfl
      have fr0:=blk_free H.drop.second 0
      have kx1:=blk_cell H.second 1 (v:=.int .i64 u1) rfl
      have kr1:=blk_cell H.drop.second 1 (v:=.int .i64 0) rfl
      have fr1:=blk_free H.drop.second 1
      have kx2:=blk_cell H.second 2 (v:=.int .i64 u2) rfl
      have kr2:=blk_cell H.drop.second 2 (v:=.int .i64 0) rfl
      have fr2:=blk_free H.drop.second 2
      clear q2 HG HR HQ
      go_wp2
      have H5:=(((H.third.store 0 (.int .i64 u0)).store 1 (.int .i64 u1)).store 2 (.int .i64 u2))
      have d100:=blk_cell H5.head 0 (v:=.int .i64 u0) rfl
      have d101:=blk_cell H5.head 1 (v:=.int .i64 u1) rfl
      have d102:=blk_cell H5.head 2 (v:=.int .i64 u2) rfl
      simp [bodyPost,results,Tryz.results147,go_sem,d100,d101,d102]
      exact H5.wider
 · have q:=HR.out
   rw [decG_err HD.out c0] at q
   injection q with q1 q2
   subst q2
   have q3:[ValN.num v0,ValN.num v1,ValN.num v2] = [ValN.num 0,ValN.num 0,ValN.num 0]:=q1.symm
   simp only [ValN.num.injEq,List.cons.injEq,and_true] at q3
   obtain ⟨rfl,rfl,rfl⟩:=q3
   have d0:((c:Int) != 0) = true:=by rw [bne_iff_ne]; omega
   clear HR q1
   go_enter Tryz.func147,Tryz.ntmps147
   go_wp2_with (go_at_call 31; ((with_reducible refine (zd _).mono ?_); rintro e w2 ⟨A,cp,rfl,g2,h2⟩; have H1:=H0.quiet g2; have kx0:=blk_cell H1.head 0 (v:=.int .i64 0) rfl; have kr0:=blk_cell H1.second 0 (v:=.int .i64 0) rfl; have fr0:=blk_free H1.second 0; have kx1:=blk_cell H1.head 1 (v:=.int .i64 0) rfl; have kr1:=blk_cell H1.second 1 (v:=.int .i64 0) rfl; have fr1:=blk_free H1.second 1; have kx2:=blk_cell H1.head 2 (v:=.int .i64 0) rfl; have kr2:=blk_cell H1.second 2 (v:=.int .i64 0) rfl; have fr2:=blk_free H1.second 2))
   have H5:=(((H1.swap.store 0 (.int .i64 0)).store 1 (.int .i64 0)).store 2 (.int .i64 0))
   have d100:=blk_cell H5.head 0 (v:=.int .i64 0) rfl
   have d101:=blk_cell H5.head 1 (v:=.int .i64 0) rfl
   have d102:=blk_cell H5.head 2 (v:=.int .i64 0) rfl
   simp [bodyPost,results,Tryz.results147,go_sem,d100,d101,d102]
   exact H5.wider
set_option maxRecDepth 4000 in
theorem oreadRegs_c (s:ByteArray) (w:World) (hs:s.size < 1000000) {v0 v1:Int} {r:Nat} (hr:decG csRegs s.data.toList = ([ValN.num v0,ValN.num v1],r)) :
 Calls Tryz.prog 148 #[.string s] w fun e w' => e = .returned (.tuple #[.agg #[.int .i64 v0,.int .i64 v1],.int .i64 (r:Int)]) ∧ Wider w w':=by
 obtain ⟨m,c,hd⟩ : ∃ m c,decA [] 0 s.data.toList = (m,c):=⟨_,_,rfl⟩
 have H0:=((Own.nil (Wider.refl w)).blk #[.int .i64 0,.int .i64 0] 49).blk #[.int .i64 0,.int .i64 0] 49
 have hz:(w.alloc (.cells #[.int .i64 0,.int .i64 0] 49)).heap.size = w.heap.size + 1:=by simp
 rw [hz] at H0
 have HR:=Lib.hid hr
 have hl:=decA_few hd
 obtain ⟨n,hn⟩ : ∃ n,m.length = n:=⟨_,rfl⟩
 rw [hn] at hl
 have HM:=Lib.hid hn
 have zd:=fun W:World => odec_c s W hs hd hn
 have HD:=Lib.hid hd
 clear hr hz hd hn
 by_cases c0:c = 0
 · subst c0
   go_enter Tryz.func148,Tryz.ntmps148
   go_wp2_with (go_at_call 31; ((with_reducible refine (zd _).mono ?_); rintro e w2 ⟨A,cp,rfl,g2,h2⟩; have H1:=H0.row g2 h2))
   clear H0 zd g2 h2
   go_loopw [7] (fun i wr => ∃ j:Nat,j ≤ n ∧ i = .int .i64 (j:Int) ∧ ∃ u0 u1:Int,Own w wr [rowT 77 2 (.slice A n cp) n (cellsA m),blkT (w.heap.size + 1) #[.int .i64 u0,.int .i64 u1] 49,blkT w.heap.size #[.int .i64 0,.int .i64 0] 49] ∧ Hid (readG csRegs (zeroG csRegs) (m.take j) = some [ValN.num u0,ValN.num u1])) (fun i _ => n - (intOf i).toNat)
   case atStart => exact ⟨0,by omega,by simp,0,0,H1,rfl⟩
   case round =>
    obtain ⟨j,hj,rfl,u0,u1,H,HG⟩:=hrel
    have HQ:=Lib.hid H1
    clear H1
    by_cases cj:j < n
    · have j0:(0:Int) ≤ (j:Int):=by omega
      have j1:(j:Int) < (n:Int):=by omega
      obtain ⟨x,hx⟩:=next_some m j (by rw [HM.out]; exact cj)
      obtain ⟨A',cp',ea,ha,_⟩:=atsAt_own H.head
      injection ea with ea1 ea2 ea3
      subst ea1 ea3
      cases A with
      | none => exact absurd (ha.none_ rfl) (by intro e; rw [e] at hx; simp at hx)
      | some a =>
        have hA:=ha.cell a rfl j x hx
        have HX:=Lib.hid hx
        have HS:Hid (readG csRegs (zeroG csRegs) (m.take (j + 1)) = stepG csRegs [ValN.num u0,ValN.num u1] x):=readG_next HG.out hx
        have HN:stepG csRegs [ValN.num u0,ValN.num u1] x = none → ([ValN.num v0,ValN.num v1] = [ValN.num 0,ValN.num 0] ∧ r = 3):=fun e => by
         have q:=HR.out
         rw [decG_none HD.out (readG_stuck HG.out hx e)] at q
         injection q with q1 q2
         exact ⟨q1.symm,q2.symm⟩
        have sz:x.v.size < 1000000:=attr_small HD.out hs hx
        clear hx ha
        obtain ⟨t,q⟩:=x
        have ⟨k0,k1⟩:=hA
        have k2:=hA.flat
        simp only at k0 k1 k2 sz
        clear hA
        by_cases t0:t = 1
        · subst t0
          have e0:(((1:Nat):Int) == 1) = true:=by decide
          obtain ⟨y,z,hyz⟩ : ∃ y z,rnumN q.data.toList 2147483647 = (y,z):=⟨_,_,rfl⟩
          by_cases z0:z = 0
          · subst z0
            have hle:=(rnum_inv _ _ _ hyz).1
            have zr:=fun W:World => oread_c q 2147483647 2147483647 rfl W sz (by decide) (b:=true) hyz (by simp)
            have HS2:Hid (readG csRegs (zeroG csRegs) (m.take (j + 1)) = some [ValN.num (y:Int),ValN.num u1]):=by
             show _ = _
             rw [HS.out]
             exact step_at (show codeAt csRegs 1 = some nI from rfl) (numV_yes hyz)
            have w1:IntKind.i64.wrap (y:Int) = (y:Int):=by simp [IntKind.wrap,IntKind.bits,IntKind.signed]; omega
            clear HS HN hyz
            go_wp2_with (go_at_call 176; ((with_reducible refine (zr _).mono ?_); rintro e w3 ⟨rfl,g3⟩; have H3:=H.quiet g3; have kx:=blk_cell H3.second 0 (v:=.int .i64 u0) rfl; have fx:=blk_free H3.second 0))
            have H4:=(H3.swap.store 0 (.int .i64 (y:Int))).swap
            go_roundw
            case rel => exact ⟨j + 1,by omega,by go_num,(y:Int),u1,H4,HS2⟩
            case measure => simp [intOf]; omega
          · obtain ⟨rfl,rfl⟩ : y = 0 ∧ z = 3:=by
             rcases rnum_codes q.data.toList 2147483647 with k | k
             · rw [hyz] at k; exact absurd k z0
             · rw [hyz] at k; injection k with k1 k2; exact ⟨k1,k2⟩
            have zr:=fun W:World => oread_c q 2147483647 2147483647 rfl W sz (by decide) (b:=false) hyz (by simp)
            have hst:stepG csRegs [ValN.num u0,ValN.num u1] ⟨1,q⟩ = none:=by
             exact step_bad (show codeAt csRegs 1 = some nI from rfl) (numV_no hyz)
            obtain ⟨hv,rfl⟩:=HN hst
            simp only [ValN.num.injEq,List.cons.injEq,and_true] at hv
            obtain ⟨rfl,rfl⟩:=hv
            clear HS HN hst HR HG
            go_wp2_with (go_at_call 176; ((with_reducible refine (zr _).mono ?_); rintro e w3 ⟨rfl,g3⟩; have H3:=H.quiet g3; have kx:=blk_cell H3.second 0 (v:=.int .i64 u0) rfl; have fx:=blk_free H3.second 0; have kr0:=blk_cell H3.drop.second 0 (v:=.int .i64 0) rfl; have fr0:=blk_free H3.drop.second 0; have kr1:=blk_cell H3.drop.second 1 (v:=.int .i64 0) rfl; have fr1:=blk_free H3.drop.second 1))
            have H5:=(((H3.swap.store 0 (.int .i64 0)).third.store 0 (.int .i64 0)).store 1 (.int .i64 0))
            have d100:=blk_cell H5.head 0 (v:=.int .i64 0) rfl
            have d101:=blk_cell H5.head 1 (v:=.int .i64 0) rfl
            simp [bodyPost,results,Tryz.results148,go_sem,d100,d101]
            exact H5.wider
        by_cases t1:t = 2
        · subst t1
          have e0:(((2:Nat):Int) == 1) = false:=by decide
          have e1:(((2:Nat):Int) == 2) = true:=by decide
          obtain ⟨y,z,hyz⟩ : ∃ y z,rnumN q.data.toList 2147483647 = (y,z):=⟨_,_,rfl⟩
          by_cases z0:z = 0
          · subst z0
            have hle:=(rnum_inv _ _ _ hyz).1
            have zr:=fun W:World => oread_c q 2147483647 2147483647 rfl W sz (by decide) (b:=true) hyz (by simp)
            have HS2:Hid (readG csRegs (zeroG csRegs) (m.take (j + 1)) = some [ValN.num u0,ValN.num (y:Int)]):=by
             show _ = _
             rw [HS.out]
             exact step_at (show codeAt csRegs 2 = some nI from rfl) (numV_yes hyz)
            have w1:IntKind.i64.wrap (y:Int) = (y:Int):=by simp [IntKind.wrap,IntKind.bits,IntKind.signed]; omega
            clear HS HN hyz
            go_wp2_with (go_at_call 176; ((with_reducible refine (zr _).mono ?_); rintro e w3 ⟨rfl,g3⟩; have H3:=H.quiet g3; have kx:=blk_cell H3.second 1 (v:=.int .i64 u1) rfl; have fx:=blk_free H3.second 1))
            have H4:=(H3.swap.store 1 (.int .i64 (y:Int))).swap
            go_roundw
            case rel => exact ⟨j + 1,by omega,by go_num,u0,(y:Int),H4,HS2⟩
            case measure => simp [intOf]; omega
          · obtain ⟨rfl,rfl⟩ : y = 0 ∧ z = 3:=by
             rcases rnum_codes q.data.toList 2147483647 with k | k
             · rw [hyz] at k; exact absurd k z0
             · rw [hyz] at k; injection k with k1 k2; exact ⟨k1,k2⟩
            have zr:=fun W:World => oread_c q 2147483647 2147483647 rfl W sz (by decide) (b:=false) hyz (by simp)
            have hst:stepG csRegs [ValN.num u0,ValN.num u1] ⟨2,q⟩ = none:=by
             exact step_bad (show codeAt csRegs 2 = some nI from rfl) (numV_no hyz)
            obtain ⟨hv,rfl⟩:=HN hst
            simp only [ValN.num.injEq,List.cons.injEq,and_true] at hv
            obtain ⟨rfl,rfl⟩:=hv
            clear HS HN hst HR HG
            go_wp2_with (go_at_call 176; ((with_reducible refine (zr _).mono ?_); rintro e w3 ⟨rfl,g3⟩; have H3:=H.quiet g3; have kx:=blk_cell H3.second 1 (v:=.int .i64 u1) rfl; have fx:=blk_free H3.second 1; have kr0:=blk_cell H3.drop.second 0 (v:=.int .i64 0) rfl; have fr0:=blk_free H3.drop.second 0; have kr1:=blk_cell H3.drop.second 1 (v:=.int .i64 0) rfl; have fr1:=blk_free H3.drop.second 1))
            have H5:=(((H3.swap.store 1 (.int .i64 0)).third.store 0 (.int .i64 0)).store 1 (.int .i64 0))
            have d100:=blk_cell H5.head 0 (v:=.int .i64 0) rfl
            have d101:=blk_cell H5.head 1 (v:=.int .i64 0) rfl
            simp [bodyPost,results,Tryz.results148,go_sem,d100,d101]
            exact H5.wider
        have e0:((t:Int) == 1) = false:=by rw [beq_eq_false_iff_ne]; omega
        have e1:((t:Int) == 2) = false:=by rw [beq_eq_false_iff_ne]; omega
        have hst:stepG csRegs [ValN.num u0,ValN.num u1] ⟨t,q⟩ = none:=step_none (by show ¬ (1 ≤ t ∧ t ≤ 2); omega)
        obtain ⟨hv,rfl⟩:=HN hst
        simp only [ValN.num.injEq,List.cons.injEq,and_true] at hv
        obtain ⟨rfl,rfl⟩:=hv
        clear HS HN hst HR HG
        have kr0:=blk_cell H.drop.second 0 (v:=.int .i64 0) rfl
        have fr0:=blk_free H.drop.second 0
        have kr1:=blk_cell H.drop.second 1 (v:=.int .i64 0) rfl
        have fr1:=blk_free H.drop.second 1
        go_wp2
        have H5:=((H.third.store 0 (.int .i64 0)).store 1 (.int .i64 0))
        have d100:=blk_cell H5.head 0 (v:=.int .i64 0) rfl
        have d101:=blk_cell H5.head 1 (v:=.int .i64 0) rfl
        simp [bodyPost,results,Tryz.results148,go_sem,d100,d101]
        exact H5.wider
    · obtain rfl:j = n:=by omega
      have q:=HR.out
      have q2:=HG.out
      rw [List.take_of_length_le (by rw [HM.out]; exact Nat.le_refl _)] at q2
      rw [decG_some HD.out q2] at q
      injection q with q3 q4
      subst q4
      simp only [ValN.num.injEq,List.cons.injEq,and_true] at q3
      obtain ⟨rfl,rfl⟩:=q3
      have kx0:=blk_cell H.second 0 (v:=.int .i64 u0) rfl
      have kr0:=blk_cell H.drop.second 0 (v:=.int .i64 0) rfl
      have fr0:=blk_free H.drop.second 0
      have kx1:=blk_cell H.second 1 (v:=.int .i64 u1) rfl
      have kr1:=blk_cell H.drop.second 1 (v:=.int .i64 0) rfl
      have fr1:=blk_free H.drop.second 1
      clear q2 HG HR HQ
      go_wp2
      have H5:=((H.third.store 0 (.int .i64 u0)).store 1 (.int .i64 u1))
      have d100:=blk_cell H5.head 0 (v:=.int .i64 u0) rfl
      have d101:=blk_cell H5.head 1 (v:=.int .i64 u1) rfl
      simp [bodyPost,results,Tryz.results148,go_sem,d100,d101]
      exact H5.wider
 · have q:=HR.out
   rw [decG_err HD.out c0] at q
   injection q with q1 q2
   subst q2
   have q3:[ValN.num v0,ValN.num v1] = [ValN.num 0,ValN.num 0]:=q1.symm
   simp only [ValN.num.injEq,List.cons.injEq,and_true] at q3
   obtain ⟨rfl,rfl⟩:=q3
   have d0:((c:Int) != 0) = true:=by rw [bne_iff_ne]; omega
   clear HR q1
   go_enter Tryz.func148,Tryz.ntmps148
   go_wp2_with (go_at_call 31; ((with_reducible refine (zd _).mono ?_); rintro e w2 ⟨A,cp,rfl,g2,h2⟩; have H1:=H0.quiet g2; have kx0:=blk_cell H1.head 0 (v:=.int .i64 0) rfl; have kr0:=blk_cell H1.second 0 (v:=.int .i64 0) rfl; have fr0:=blk_free H1.second 0; have kx1:=blk_cell H1.head 1 (v:=.int .i64 0) rfl; have kr1:=blk_cell H1.second 1 (v:=.int .i64 0) rfl; have fr1:=blk_free H1.second 1))
   have H5:=((H1.swap.store 0 (.int .i64 0)).store 1 (.int .i64 0))
   have d100:=blk_cell H5.head 0 (v:=.int .i64 0) rfl
   have d101:=blk_cell H5.head 1 (v:=.int .i64 0) rfl
   simp [bodyPost,results,Tryz.results148,go_sem,d100,d101]
   exact H5.wider
end Go.Proofs.YtoopdhgmdjienaaGreatDoor
