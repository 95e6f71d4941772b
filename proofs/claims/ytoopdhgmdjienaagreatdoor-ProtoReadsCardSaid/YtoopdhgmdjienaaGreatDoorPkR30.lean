/- OReadNode -/
import Derived.Test.YtoopdhgmdjienaaGreatDoorPkR29
namespace Go.Proofs.YtoopdhgmdjienaaGreatDoor
set_option linter.unusedVariables false
set_option maxRecDepth 20000
open Go.ChangeShapes Go.WideShapes Go.ChangeAt Go.RowKit Go.Joins
open Go.ChangeMaps (open_string shut_string)
set_option maxHeartbeats 64000000
abbrev zcNode:Array Value:=#[.int .i64 0,.int .i64 0,.int .i64 0,.int .i64 0,.int .i64 0,.int .i64 0,.int .i64 0,.slice none 0 0,.int .i64 0]
theorem oreadNode_c (s:ByteArray) (w:World) (hs:s.size < 1000000) {v0 v1 v2 v3 v4 v5 v6 v8:Int} {L:List (List Int)} {r:Nat} (hr:decG csNode s.data.toList = ([ValN.num v0,ValN.num v1,ValN.num v2,ValN.num v3,ValN.num v4,ValN.num v5,ValN.num v6,ValN.num v8,ValN.lst L],r)) :
 Calls Tryz.prog 141 #[.string s] w fun e w' => ∃ (A:Option Addr) (n cap:Nat),e = .returned (.tuple #[.agg #[.int .i64 v0,.int .i64 v1,.int .i64 v2,.int .i64 v3,.int .i64 v4,.int .i64 v5,.int .i64 v6,.slice A n cap,.int .i64 v8],.int .i64 (r:Int)]) ∧ Wider w w' ∧ L.length = n ∧ w'.ownsRow w.heap.size 61 2 (.slice A n cap) n (cellsK ksArm L):=by
 obtain ⟨m,c,hd⟩ : ∃ m c,decA [] 0 s.data.toList = (m,c):=⟨_,_,rfl⟩
 have H0:=((Own.nil (Wider.refl w)).blk zcNode 32).blk zcNode 32
 have hz:(w.alloc (.cells zcNode 32)).heap.size = w.heap.size + 1:=by simp
 rw [hz] at H0
 have HR:=Lib.hid hr
 have hl:=decA_few hd
 obtain ⟨n,hn⟩ : ∃ n,m.length = n:=⟨_,rfl⟩
 rw [hn] at hl
 have HM:=Lib.hid hn
 have zd:=fun W:World => odec_c s W hs hd hn
 have HD:=Lib.hid hd
 clear hr hz hd hn
 obtain ⟨i0,hi0,hp0,hq0,hr0⟩:=info_parts infoArm
 by_cases c0:c = 0
 · subst c0
   go_enter Tryz.func141,Tryz.ntmps141
   go_wp2_with (go_at_call 31; ((with_reducible refine (zd _).mono ?_); rintro e w2 ⟨A,cp,rfl,g2,h2⟩; have H1:=(H0.row g2 h2).nils 61 2))
   clear H0 zd g2 h2
   go_loopw [7] (fun i wr => ∃ j:Nat,j ≤ n ∧ i = .int .i64 (j:Int) ∧ ∃ (cu0 cu1 cu2 cu3 cu4 cu5 cu6 cu8:Int) (Al:Option Addr) (nl cl:Nat) (Lu:List (List Int)),Own w wr [rowT 77 2 (.slice A n cp) n (cellsA m),blkT (w.heap.size + 1) #[.int .i64 cu0,.int .i64 cu1,.int .i64 cu2,.int .i64 cu3,.int .i64 cu4,.int .i64 cu5,.int .i64 cu6,.slice Al nl cl,.int .i64 cu8] 32,blkT w.heap.size zcNode 32,rowT 61 2 (.slice Al nl cl) nl (cellsK ksArm Lu)] ∧ Hid (Lu.length = nl ∧ readG csNode (zeroG csNode) (m.take j) = some [ValN.num cu0,ValN.num cu1,ValN.num cu2,ValN.num cu3,ValN.num cu4,ValN.num cu5,ValN.num cu6,ValN.num cu8,ValN.lst Lu])) (fun i _ => n - (intOf i).toNat)
   case atStart => exact ⟨0,by omega,by simp,0,0,0,0,0,0,0,0,none,0,0,[],H1,rfl,rfl⟩
   case round =>
    obtain ⟨j,hj,rfl,cu0,cu1,cu2,cu3,cu4,cu5,cu6,cu8,Al,nl,cl,Lu,H,HG⟩:=hrel
    clear H1
    by_cases cj:j < n
    · have j0:(0:Int) ≤ (j:Int):=by omega
      have j1:(j:Int) < (n:Int):=by omega
      obtain ⟨x,hx⟩:=next_some m j (by rw [HM.out]; exact cj)
      obtain ⟨A',cp',ea,ha,_⟩:=atsAt_own H.head
      injection ea with ea1 ea2 ea3
      subst ea1 ea3
      cases A with
      | none => exact absurd (ha.none_ rfl) (by intro e; rw [e] at hx; simp at hx)
      | some a =>
        have hA:=ha.cell a rfl j x hx
        have HX:=Lib.hid hx
        have HS:Hid (readG csNode (zeroG csNode) (m.take (j + 1)) = stepG csNode [ValN.num cu0,ValN.num cu1,ValN.num cu2,ValN.num cu3,ValN.num cu4,ValN.num cu5,ValN.num cu6,ValN.num cu8,ValN.lst Lu] x):=readG_next HG.out.2 hx
        have HN:stepG csNode [ValN.num cu0,ValN.num cu1,ValN.num cu2,ValN.num cu3,ValN.num cu4,ValN.num cu5,ValN.num cu6,ValN.num cu8,ValN.lst Lu] x = none → ([ValN.num v0,ValN.num v1,ValN.num v2,ValN.num v3,ValN.num v4,ValN.num v5,ValN.num v6,ValN.num v8,ValN.lst L] = [ValN.num 0,ValN.num 0,ValN.num 0,ValN.num 0,ValN.num 0,ValN.num 0,ValN.num 0,ValN.num 0,ValN.lst []] ∧ r = 3):=fun e => by
         have q:=HR.out
         rw [decG_none HD.out (readG_stuck HG.out.2 hx e)] at q
         injection q with q1 q2
         exact ⟨q1.symm,q2.symm⟩
        have sz:x.v.size < 1000000:=attr_small HD.out hs hx
        clear hx ha
        obtain ⟨t,q⟩:=x
        have ⟨k0,k1⟩:=hA
        have k2:=hA.flat
        simp only at k0 k1 k2 sz
        clear hA
        by_cases t0:t = 1
        · subst t0
          have e0:(((1:Nat):Int) == 1) = true:=by decide
          obtain ⟨y,z,hyz⟩ : ∃ y z,rnumN q.data.toList 2147483647 = (y,z):=⟨_,_,rfl⟩
          by_cases z0:z = 0
          · subst z0
            have hle:=(rnum_inv _ _ _ hyz).1
            have zr:=fun W:World => oread_c q 2147483647 2147483647 rfl W sz (by decide) (b:=true) hyz (by simp)
            have HS2:Hid (readG csNode (zeroG csNode) (m.take (j + 1)) = some [ValN.num (y:Int),ValN.num cu1,ValN.num cu2,ValN.num cu3,ValN.num cu4,ValN.num cu5,ValN.num cu6,ValN.num cu8,ValN.lst Lu]):=by
             show _ = _
             rw [HS.out]
             exact step_at (show codeAt csNode 1 = some nI from rfl) (numV_yes hyz)
            have w1:IntKind.i64.wrap (y:Int) = (y:Int):=by simp [IntKind.wrap,IntKind.bits,IntKind.signed]; omega
            clear HS HN hyz
            go_wp2_with (go_at_call 176; ((with_reducible refine (zr _).mono ?_); rintro e w3 ⟨rfl,g3⟩; have H3:=H.quiet g3; have kx:=blk_cell H3.second 0 (v:=.int .i64 cu0) rfl; have fx:=blk_free H3.second 0))
            have H4:=(H3.swap.store 0 (.int .i64 (y:Int))).swap
            go_roundw
            case rel => exact ⟨j + 1,by omega,by go_num,(y:Int),cu1,cu2,cu3,cu4,cu5,cu6,cu8,Al,nl,cl,Lu,H4,HG.out.1,HS2.out⟩
            case measure => simp [intOf]; omega
          · obtain ⟨rfl,rfl⟩ : y = 0 ∧ z = 3:=by
             rcases rnum_codes q.data.toList 2147483647 with k | k
             · rw [hyz] at k; exact absurd k z0
             · rw [hyz] at k; injection k with k1 k2; exact ⟨k1,k2⟩
            have zr:=fun W:World => oread_c q 2147483647 2147483647 rfl W sz (by decide) (b:=false) hyz (by simp)
            have hst:stepG csNode [ValN.num cu0,ValN.num cu1,ValN.num cu2,ValN.num cu3,ValN.num cu4,ValN.num cu5,ValN.num cu6,ValN.num cu8,ValN.lst Lu] ⟨1,q⟩ = none:=step_bad (show codeAt csNode 1 = some nI from rfl) (numV_no hyz)
            obtain ⟨hv,rfl⟩:=HN hst
            simp only [ValN.num.injEq,ValN.lst.injEq,List.cons.injEq,and_true] at hv
            obtain ⟨rfl,rfl,rfl,rfl,rfl,rfl,rfl,rfl,rfl⟩:=hv
            clear HS HN hst HR HG
            go_wp2_with (first
             | (go_at_call 176; ((with_reducible refine (zr _).mono ?_); rintro e w3 ⟨rfl,g3⟩; have H3:=H.quiet g3; have kx:=blk_cell H3.second 0 (v:=.int .i64 cu0) rfl; have fx:=blk_free H3.second 0; have H4:=H3.swap.store 0 (.int .i64 0); have hR:=H4.drop.drop.head))
             | (with_reducible refine wpList_store_row rfl 32 (.tmp 2) (.tmp 185) rfl w.heap.size zcNode rfl rfl 32 zcNode hR (by kernel_rfl) rfl (by simp [Value.oneCell']) ?_; obtain ⟨g6,h6⟩:=setRow_facts zcNode hR))
            have W6:Wider w _:=g6.wider H4.wider (by intro i m; simp only [List.mem_singleton] at m; omega)
            have hl:=run_loadVar_row (P:=Tryz.prog) _ w.heap.size 32 32 _ (0,0) _ h6 Tryz.underlying32 rfl (by kernel_rfl)
            simp [bodyPost,results,Tryz.results141,asAddr,hl]
            exact ⟨none,0,0,by simp,W6,rfl,World.ownsRow_nil _ _ _ _⟩
        by_cases t1:t = 2
        · subst t1
          have e0:(((2:Nat):Int) == 1) = false:=by decide
          have e1:(((2:Nat):Int) == 2) = true:=by decide
          obtain ⟨y,z,hyz⟩ : ∃ y z,rnumN q.data.toList 2147483647 = (y,z):=⟨_,_,rfl⟩
          by_cases z0:z = 0
          · subst z0
            have hle:=(rnum_inv _ _ _ hyz).1
            have zr:=fun W:World => oread_c q 2147483647 2147483647 rfl W sz (by decide) (b:=true) hyz (by simp)
            have HS2:Hid (readG csNode (zeroG csNode) (m.take (j + 1)) = some [ValN.num cu0,ValN.num (y:Int),ValN.num cu2,ValN.num cu3,ValN.num cu4,ValN.num cu5,ValN.num cu6,ValN.num cu8,ValN.lst Lu]):=by
             show _ = _
             rw [HS.out]
             exact step_at (show codeAt csNode 2 = some nI from rfl) (numV_yes hyz)
            have w1:IntKind.i64.wrap (y:Int) = (y:Int):=by simp [IntKind.wrap,IntKind.bits,IntKind.signed]; omega
            clear HS HN hyz
            go_wp2_with (go_at_call 176; ((with_reducible refine (zr _).mono ?_); rintro e w3 ⟨rfl,g3⟩; have H3:=H.quiet g3; have kx:=blk_cell H3.second 1 (v:=.int .i64 cu1) rfl; have fx:=blk_free H3.second 1))
            have H4:=(H3.swap.store 1 (.int .i64 (y:Int))).swap
            go_roundw
            case rel => exact ⟨j + 1,by omega,by go_num,cu0,(y:Int),cu2,cu3,cu4,cu5,cu6,cu8,Al,nl,cl,Lu,H4,HG.out.1,HS2.out⟩
            case measure => simp [intOf]; omega
          · obtain ⟨rfl,rfl⟩ : y = 0 ∧ z = 3:=by
             rcases rnum_codes q.data.toList 2147483647 with k | k
             · rw [hyz] at k; exact absurd k z0
             · rw [hyz] at k; injection k with k1 k2; exact ⟨k1,k2⟩
            have zr:=fun W:World => oread_c q 2147483647 2147483647 rfl W sz (by decide) (b:=false) hyz (by simp)
            have hst:stepG csNode [ValN.num cu0,ValN.num cu1,ValN.num cu2,ValN.num cu3,ValN.num cu4,ValN.num cu5,ValN.num cu6,ValN.num cu8,ValN.lst Lu] ⟨2,q⟩ = none:=step_bad (show codeAt csNode 2 = some nI from rfl) (numV_no hyz)
            obtain ⟨hv,rfl⟩:=HN hst
            simp only [ValN.num.injEq,ValN.lst.injEq,List.cons.injEq,and_true] at hv
            obtain ⟨rfl,rfl,rfl,rfl,rfl,rfl,rfl,rfl,rfl⟩:=hv
            clear HS HN hst HR HG
            go_wp2_with (first
             | (go_at_call 176; ((with_reducible refine (zr _).mono ?_); rintro e w3 ⟨rfl,g3⟩; have H3:=H.quiet g3; have kx:=blk_cell H3.second 1 (v:=.int .i64 cu1) rfl; have fx:=blk_free H3.second 1; have H4:=H3.swap.store 1 (.int .i64 0); have hR:=H4.drop.drop.head))
             | (with_reducible refine wpList_store_row rfl 32 (.tmp 2) (.tmp 185) rfl w.heap.size zcNode rfl rfl 32 zcNode hR (by kernel_rfl) rfl (by simp [Value.oneCell']) ?_; obtain ⟨g6,h6⟩:=setRow_facts zcNode hR))
            have W6:Wider w _:=g6.wider H4.wider (by intro i m; simp only [List.mem_singleton] at m; omega)
            have hl:=run_loadVar_row (P:=Tryz.prog) _ w.heap.size 32 32 _ (0,0) _ h6 Tryz.underlying32 rfl (by kernel_rfl)
            simp [bodyPost,results,Tryz.results141,asAddr,hl]
            exact ⟨none,0,0,by simp,W6,rfl,World.ownsRow_nil _ _ _ _⟩
        by_cases t2:t = 3
        · subst t2
          have e0:(((3:Nat):Int) == 1) = false:=by decide
          have e1:(((3:Nat):Int) == 2) = false:=by decide
          have e2:(((3:Nat):Int) == 3) = true:=by decide
          obtain ⟨y,z,hyz⟩ : ∃ y z,rnumN q.data.toList 2147483647 = (y,z):=⟨_,_,rfl⟩
          by_cases z0:z = 0
          · subst z0
            have hle:=(rnum_inv _ _ _ hyz).1
            have zr:=fun W:World => oread_c q 2147483647 2147483647 rfl W sz (by decide) (b:=true) hyz (by simp)
            have HS2:Hid (readG csNode (zeroG csNode) (m.take (j + 1)) = some [ValN.num cu0,ValN.num cu1,ValN.num (y:Int),ValN.num cu3,ValN.num cu4,ValN.num cu5,ValN.num cu6,ValN.num cu8,ValN.lst Lu]):=by
             show _ = _
             rw [HS.out]
             exact step_at (show codeAt csNode 3 = some nI from rfl) (numV_yes hyz)
            have w1:IntKind.i64.wrap (y:Int) = (y:Int):=by simp [IntKind.wrap,IntKind.bits,IntKind.signed]; omega
            clear HS HN hyz
            go_wp2_with (go_at_call 176; ((with_reducible refine (zr _).mono ?_); rintro e w3 ⟨rfl,g3⟩; have H3:=H.quiet g3; have kx:=blk_cell H3.second 2 (v:=.int .i64 cu2) rfl; have fx:=blk_free H3.second 2))
            have H4:=(H3.swap.store 2 (.int .i64 (y:Int))).swap
            go_roundw
            case rel => exact ⟨j + 1,by omega,by go_num,cu0,cu1,(y:Int),cu3,cu4,cu5,cu6,cu8,Al,nl,cl,Lu,H4,HG.out.1,HS2.out⟩
            case measure => simp [intOf]; omega
          · obtain ⟨rfl,rfl⟩ : y = 0 ∧ z = 3:=by
             rcases rnum_codes q.data.toList 2147483647 with k | k
             · rw [hyz] at k; exact absurd k z0
             · rw [hyz] at k; injection k with k1 k2; exact ⟨k1,k2⟩
            have zr:=fun W:World => oread_c q 2147483647 2147483647 rfl W sz (by decide) (b:=false) hyz (by simp)
            have hst:stepG csNode [ValN.num cu0,ValN.num cu1,ValN.num cu2,ValN.num cu3,ValN.num cu4,ValN.num cu5,ValN.num cu6,ValN.num cu8,ValN.lst Lu] ⟨3,q⟩ = none:=step_bad (show codeAt csNode 3 = some nI from rfl) (numV_no hyz)
            obtain ⟨hv,rfl⟩:=HN hst
            simp only [ValN.num.injEq,ValN.lst.injEq,List.cons.injEq,and_true] at hv
            obtain ⟨rfl,rfl,rfl,rfl,rfl,rfl,rfl,rfl,rfl⟩:=hv
            clear HS HN hst HR HG
            go_wp2_with (first
             | (go_at_call 176; ((with_reducible refine (zr _).mono ?_); rintro e w3 ⟨rfl,g3⟩; have H3:=H.quiet g3; have kx:=blk_cell H3.second 2 (v:=.int .i64 cu2) rfl; have fx:=blk_free H3.second 2; have H4:=H3.swap.store 2 (.int .i64 0); have hR:=H4.drop.drop.head))
             | (with_reducible refine wpList_store_row rfl 32 (.tmp 2) (.tmp 185) rfl w.heap.size zcNode rfl rfl 32 zcNode hR (by kernel_rfl) rfl (by simp [Value.oneCell']) ?_; obtain ⟨g6,h6⟩:=setRow_facts zcNode hR))
            have W6:Wider w _:=g6.wider H4.wider (by intro i m; simp only [List.mem_singleton] at m; omega)
            have hl:=run_loadVar_row (P:=Tryz.prog) _ w.heap.size 32 32 _ (0,0) _ h6 Tryz.underlying32 rfl (by kernel_rfl)
            simp [bodyPost,results,Tryz.results141,asAddr,hl]
            exact ⟨none,0,0,by simp,W6,rfl,World.ownsRow_nil _ _ _ _⟩
        by_cases t3:t = 4
        · subst t3
          have e0:(((4:Nat):Int) == 1) = false:=by decide
          have e1:(((4:Nat):Int) == 2) = false:=by decide
          have e2:(((4:Nat):Int) == 3) = false:=by decide
          have e3:(((4:Nat):Int) == 4) = true:=by decide
          obtain ⟨y,z,hyz⟩ : ∃ y z,rnumN q.data.toList 2147483647 = (y,z):=⟨_,_,rfl⟩
          by_cases z0:z = 0
          · subst z0
            have hle:=(rnum_inv _ _ _ hyz).1
            have zr:=fun W:World => oread_c q 2147483647 2147483647 rfl W sz (by decide) (b:=true) hyz (by simp)
            have HS2:Hid (readG csNode (zeroG csNode) (m.take (j + 1)) = some [ValN.num cu0,ValN.num cu1,ValN.num cu2,ValN.num (y:Int),ValN.num cu4,ValN.num cu5,ValN.num cu6,ValN.num cu8,ValN.lst Lu]):=by
             show _ = _
             rw [HS.out]
             exact step_at (show codeAt csNode 4 = some nI from rfl) (numV_yes hyz)
            have w1:IntKind.i64.wrap (y:Int) = (y:Int):=by simp [IntKind.wrap,IntKind.bits,IntKind.signed]; omega
            clear HS HN hyz
            go_wp2_with (go_at_call 176; ((with_reducible refine (zr _).mono ?_); rintro e w3 ⟨rfl,g3⟩; have H3:=H.quiet g3; have kx:=blk_cell H3.second 3 (v:=.int .i64 cu3) rfl; have fx:=blk_free H3.second 3))
            have H4:=(H3.swap.store 3 (.int .i64 (y:Int))).swap
            go_roundw
            case rel => exact ⟨j + 1,by omega,by go_num,cu0,cu1,cu2,(y:Int),cu4,cu5,cu6,cu8,Al,nl,cl,Lu,H4,HG.out.1,HS2.out⟩
            case measure => simp [intOf]; omega
          · obtain ⟨rfl,rfl⟩ : y = 0 ∧ z = 3:=by
             rcases rnum_codes q.data.toList 2147483647 with k | k
             · rw [hyz] at k; exact absurd k z0
             · rw [hyz] at k; injection k with k1 k2; exact ⟨k1,k2⟩
            have zr:=fun W:World => oread_c q 2147483647 2147483647 rfl W sz (by decide) (b:=false) hyz (by simp)
            have hst:stepG csNode [ValN.num cu0,ValN.num cu1,ValN.num cu2,ValN.num cu3,ValN.num cu4,ValN.num cu5,ValN.num cu6,ValN.num cu8,ValN.lst Lu] ⟨4,q⟩ = none:=step_bad (show codeAt csNode 4 = some nI from rfl) (numV_no hyz)
            obtain ⟨hv,rfl⟩:=HN hst
            simp only [ValN.num.injEq,ValN.lst.injEq,List.cons.injEq,and_true] at hv
            obtain ⟨rfl,rfl,rfl,rfl,rfl,rfl,rfl,rfl,rfl⟩:=hv
            clear HS HN hst HR HG
            go_wp2_with (first
             | (go_at_call 176; ((with_reducible refine (zr _).mono ?_); rintro e w3 ⟨rfl,g3⟩; have H3:=H.quiet g3; have kx:=blk_cell H3.second 3 (v:=.int .i64 cu3) rfl; have fx:=blk_free H3.second 3; have H4:=H3.swap.store 3 (.int .i64 0); have hR:=H4.drop.drop.head))
             | (with_reducible refine wpList_store_row rfl 32 (.tmp 2) (.tmp 185) rfl w.heap.size zcNode rfl rfl 32 zcNode hR (by kernel_rfl) rfl (by simp [Value.oneCell']) ?_; obtain ⟨g6,h6⟩:=setRow_facts zcNode hR))
            have W6:Wider w _:=g6.wider H4.wider (by intro i m; simp only [List.mem_singleton] at m; omega)
            have hl:=run_loadVar_row (P:=Tryz.prog) _ w.heap.size 32 32 _ (0,0) _ h6 Tryz.underlying32 rfl (by kernel_rfl)
            simp [bodyPost,results,Tryz.results141,asAddr,hl]
            exact ⟨none,0,0,by simp,W6,rfl,World.ownsRow_nil _ _ _ _⟩
        by_cases t4:t = 5
        · subst t4
          have e0:(((5:Nat):Int) == 1) = false:=by decide
          have e1:(((5:Nat):Int) == 2) = false:=by decide
          have e2:(((5:Nat):Int) == 3) = false:=by decide
          have e3:(((5:Nat):Int) == 4) = false:=by decide
          have e4:(((5:Nat):Int) == 5) = true:=by decide
          obtain ⟨y,z,hyz⟩ : ∃ y z,rnumN q.data.toList 2147483647 = (y,z):=⟨_,_,rfl⟩
          by_cases z0:z = 0
          · subst z0
            have hle:=(rnum_inv _ _ _ hyz).1
            have zr:=fun W:World => oread_c q 2147483647 2147483647 rfl W sz (by decide) (b:=true) hyz (by simp)
            have HS2:Hid (readG csNode (zeroG csNode) (m.take (j + 1)) = some [ValN.num cu0,ValN.num cu1,ValN.num cu2,ValN.num cu3,ValN.num (y:Int),ValN.num cu5,ValN.num cu6,ValN.num cu8,ValN.lst Lu]):=by
             show _ = _
             rw [HS.out]
             exact step_at (show codeAt csNode 5 = some nI from rfl) (numV_yes hyz)
            have w1:IntKind.i64.wrap (y:Int) = (y:Int):=by simp [IntKind.wrap,IntKind.bits,IntKind.signed]; omega
            clear HS HN hyz
            go_wp2_with (go_at_call 176; ((with_reducible refine (zr _).mono ?_); rintro e w3 ⟨rfl,g3⟩; have H3:=H.quiet g3; have kx:=blk_cell H3.second 4 (v:=.int .i64 cu4) rfl; have fx:=blk_free H3.second 4))
            have H4:=(H3.swap.store 4 (.int .i64 (y:Int))).swap
            go_roundw
            case rel => exact ⟨j + 1,by omega,by go_num,cu0,cu1,cu2,cu3,(y:Int),cu5,cu6,cu8,Al,nl,cl,Lu,H4,HG.out.1,HS2.out⟩
            case measure => simp [intOf]; omega
          · obtain ⟨rfl,rfl⟩ : y = 0 ∧ z = 3:=by
             rcases rnum_codes q.data.toList 2147483647 with k | k
             · rw [hyz] at k; exact absurd k z0
             · rw [hyz] at k; injection k with k1 k2; exact ⟨k1,k2⟩
            have zr:=fun W:World => oread_c q 2147483647 2147483647 rfl W sz (by decide) (b:=false) hyz (by simp)
            have hst:stepG csNode [ValN.num cu0,ValN.num cu1,ValN.num cu2,ValN.num cu3,ValN.num cu4,ValN.num cu5,ValN.num cu6,ValN.num cu8,ValN.lst Lu] ⟨5,q⟩ = none:=step_bad (show codeAt csNode 5 = some nI from rfl) (numV_no hyz)
            obtain ⟨hv,rfl⟩:=HN hst
            simp only [ValN.num.injEq,ValN.lst.injEq,List.cons.injEq,and_true] at hv
            obtain ⟨rfl,rfl,rfl,rfl,rfl,rfl,rfl,rfl,rfl⟩:=hv
            clear HS HN hst HR HG
            go_wp2_with (first
             | (go_at_call 176; ((with_reducible refine (zr _).mono ?_); rintro e w3 ⟨rfl,g3⟩; have H3:=H.quiet g3; have kx:=blk_cell H3.second 4 (v:=.int .i64 cu4) rfl; have fx:=blk_free H3.second 4; have H4:=H3.swap.store 4 (.int .i64 0); have hR:=H4.drop.drop.head))
             | (with_reducible refine wpList_store_row rfl 32 (.tmp 2) (.tmp 185) rfl w.heap.size zcNode rfl rfl 32 zcNode hR (by kernel_rfl) rfl (by simp [Value.oneCell']) ?_; obtain ⟨g6,h6⟩:=setRow_facts zcNode hR))
            have W6:Wider w _:=g6.wider H4.wider (by intro i m; simp only [List.mem_singleton] at m; omega)
            have hl:=run_loadVar_row (P:=Tryz.prog) _ w.heap.size 32 32 _ (0,0) _ h6 Tryz.underlying32 rfl (by kernel_rfl)
            simp [bodyPost,results,Tryz.results141,asAddr,hl]
            exact ⟨none,0,0,by simp,W6,rfl,World.ownsRow_nil _ _ _ _⟩
        by_cases t5:t = 6
        · subst t5
          have e0:(((6:Nat):Int) == 1) = false:=by decide
          have e1:(((6:Nat):Int) == 2) = false:=by decide
          have e2:(((6:Nat):Int) == 3) = false:=by decide
          have e3:(((6:Nat):Int) == 4) = false:=by decide
          have e4:(((6:Nat):Int) == 5) = false:=by decide
          have e5:(((6:Nat):Int) == 6) = true:=by decide
          obtain ⟨y,z,hyz⟩ : ∃ y z,rnumN q.data.toList 2147483647 = (y,z):=⟨_,_,rfl⟩
          by_cases z0:z = 0
          · subst z0
            have hle:=(rnum_inv _ _ _ hyz).1
            have zr:=fun W:World => oread_c q 2147483647 2147483647 rfl W sz (by decide) (b:=true) hyz (by simp)
            have HS2:Hid (readG csNode (zeroG csNode) (m.take (j + 1)) = some [ValN.num cu0,ValN.num cu1,ValN.num cu2,ValN.num cu3,ValN.num cu4,ValN.num (y:Int),ValN.num cu6,ValN.num cu8,ValN.lst Lu]):=by
             show _ = _
             rw [HS.out]
             exact step_at (show codeAt csNode 6 = some nI from rfl) (numV_yes hyz)
            have w1:IntKind.i64.wrap (y:Int) = (y:Int):=by simp [IntKind.wrap,IntKind.bits,IntKind.signed]; omega
            clear HS HN hyz
            go_wp2_with (go_at_call 176; ((with_reducible refine (zr _).mono ?_); rintro e w3 ⟨rfl,g3⟩; have H3:=H.quiet g3; have kx:=blk_cell H3.second 5 (v:=.int .i64 cu5) rfl; have fx:=blk_free H3.second 5))
            have H4:=(H3.swap.store 5 (.int .i64 (y:Int))).swap
            go_roundw
            case rel => exact ⟨j + 1,by omega,by go_num,cu0,cu1,cu2,cu3,cu4,(y:Int),cu6,cu8,Al,nl,cl,Lu,H4,HG.out.1,HS2.out⟩
            case measure => simp [intOf]; omega
          · obtain ⟨rfl,rfl⟩ : y = 0 ∧ z = 3:=by
             rcases rnum_codes q.data.toList 2147483647 with k | k
             · rw [hyz] at k; exact absurd k z0
             · rw [hyz] at k; injection k with k1 k2; exact ⟨k1,k2⟩
            have zr:=fun W:World => oread_c q 2147483647 2147483647 rfl W sz (by decide) (b:=false) hyz (by simp)
            have hst:stepG csNode [ValN.num cu0,ValN.num cu1,ValN.num cu2,ValN.num cu3,ValN.num cu4,ValN.num cu5,ValN.num cu6,ValN.num cu8,ValN.lst Lu] ⟨6,q⟩ = none:=step_bad (show codeAt csNode 6 = some nI from rfl) (numV_no hyz)
            obtain ⟨hv,rfl⟩:=HN hst
            simp only [ValN.num.injEq,ValN.lst.injEq,List.cons.injEq,and_true] at hv
            obtain ⟨rfl,rfl,rfl,rfl,rfl,rfl,rfl,rfl,rfl⟩:=hv
            clear HS HN hst HR HG
            go_wp2_with (first
             | (go_at_call 176; ((with_reducible refine (zr _).mono ?_); rintro e w3 ⟨rfl,g3⟩; have H3:=H.quiet g3; have kx:=blk_cell H3.second 5 (v:=.int .i64 cu5) rfl; have fx:=blk_free H3.second 5; have H4:=H3.swap.store 5 (.int .i64 0); have hR:=H4.drop.drop.head))
             | (with_reducible refine wpList_store_row rfl 32 (.tmp 2) (.tmp 185) rfl w.heap.size zcNode rfl rfl 32 zcNode hR (by kernel_rfl) rfl (by simp [Value.oneCell']) ?_; obtain ⟨g6,h6⟩:=setRow_facts zcNode hR))
            have W6:Wider w _:=g6.wider H4.wider (by intro i m; simp only [List.mem_singleton] at m; omega)
            have hl:=run_loadVar_row (P:=Tryz.prog) _ w.heap.size 32 32 _ (0,0) _ h6 Tryz.underlying32 rfl (by kernel_rfl)
            simp [bodyPost,results,Tryz.results141,asAddr,hl]
            exact ⟨none,0,0,by simp,W6,rfl,World.ownsRow_nil _ _ _ _⟩
        by_cases t6:t = 7
        · subst t6
          have e0:(((7:Nat):Int) == 1) = false:=by decide
          have e1:(((7:Nat):Int) == 2) = false:=by decide
          have e2:(((7:Nat):Int) == 3) = false:=by decide
          have e3:(((7:Nat):Int) == 4) = false:=by decide
          have e4:(((7:Nat):Int) == 5) = false:=by decide
          have e5:(((7:Nat):Int) == 6) = false:=by decide
          have e6:(((7:Nat):Int) == 7) = true:=by decide
          obtain ⟨y,z,hyz⟩ : ∃ y z,rnumN q.data.toList 2147483647 = (y,z):=⟨_,_,rfl⟩
          by_cases z0:z = 0
          · subst z0
            have hle:=(rnum_inv _ _ _ hyz).1
            have zr:=fun W:World => oread_c q 2147483647 2147483647 rfl W sz (by decide) (b:=true) hyz (by simp)
            have HS2:Hid (readG csNode (zeroG csNode) (m.take (j + 1)) = some [ValN.num cu0,ValN.num cu1,ValN.num cu2,ValN.num cu3,ValN.num cu4,ValN.num cu5,ValN.num (y:Int),ValN.num cu8,ValN.lst Lu]):=by
             show _ = _
             rw [HS.out]
             exact step_at (show codeAt csNode 7 = some nI from rfl) (numV_yes hyz)
            have w1:IntKind.i64.wrap (y:Int) = (y:Int):=by simp [IntKind.wrap,IntKind.bits,IntKind.signed]; omega
            clear HS HN hyz
            go_wp2_with (go_at_call 176; ((with_reducible refine (zr _).mono ?_); rintro e w3 ⟨rfl,g3⟩; have H3:=H.quiet g3; have kx:=blk_cell H3.second 6 (v:=.int .i64 cu6) rfl; have fx:=blk_free H3.second 6))
            have H4:=(H3.swap.store 6 (.int .i64 (y:Int))).swap
            go_roundw
            case rel => exact ⟨j + 1,by omega,by go_num,cu0,cu1,cu2,cu3,cu4,cu5,(y:Int),cu8,Al,nl,cl,Lu,H4,HG.out.1,HS2.out⟩
            case measure => simp [intOf]; omega
          · obtain ⟨rfl,rfl⟩ : y = 0 ∧ z = 3:=by
             rcases rnum_codes q.data.toList 2147483647 with k | k
             · rw [hyz] at k; exact absurd k z0
             · rw [hyz] at k; injection k with k1 k2; exact ⟨k1,k2⟩
            have zr:=fun W:World => oread_c q 2147483647 2147483647 rfl W sz (by decide) (b:=false) hyz (by simp)
            have hst:stepG csNode [ValN.num cu0,ValN.num cu1,ValN.num cu2,ValN.num cu3,ValN.num cu4,ValN.num cu5,ValN.num cu6,ValN.num cu8,ValN.lst Lu] ⟨7,q⟩ = none:=step_bad (show codeAt csNode 7 = some nI from rfl) (numV_no hyz)
            obtain ⟨hv,rfl⟩:=HN hst
            simp only [ValN.num.injEq,ValN.lst.injEq,List.cons.injEq,and_true] at hv
            obtain ⟨rfl,rfl,rfl,rfl,rfl,rfl,rfl,rfl,rfl⟩:=hv
            clear HS HN hst HR HG
            go_wp2_with (first
             | (go_at_call 176; ((with_reducible refine (zr _).mono ?_); rintro e w3 ⟨rfl,g3⟩; have H3:=H.quiet g3; have kx:=blk_cell H3.second 6 (v:=.int .i64 cu6) rfl; have fx:=blk_free H3.second 6; have H4:=H3.swap.store 6 (.int .i64 0); have hR:=H4.drop.drop.head))
             | (with_reducible refine wpList_store_row rfl 32 (.tmp 2) (.tmp 185) rfl w.heap.size zcNode rfl rfl 32 zcNode hR (by kernel_rfl) rfl (by simp [Value.oneCell']) ?_; obtain ⟨g6,h6⟩:=setRow_facts zcNode hR))
            have W6:Wider w _:=g6.wider H4.wider (by intro i m; simp only [List.mem_singleton] at m; omega)
            have hl:=run_loadVar_row (P:=Tryz.prog) _ w.heap.size 32 32 _ (0,0) _ h6 Tryz.underlying32 rfl (by kernel_rfl)
            simp [bodyPost,results,Tryz.results141,asAddr,hl]
            exact ⟨none,0,0,by simp,W6,rfl,World.ownsRow_nil _ _ _ _⟩
        by_cases t7:t = 8
        · subst t7
          have e0:(((8:Nat):Int) == 1) = false:=by decide
          have e1:(((8:Nat):Int) == 2) = false:=by decide
          have e2:(((8:Nat):Int) == 3) = false:=by decide
          have e3:(((8:Nat):Int) == 4) = false:=by decide
          have e4:(((8:Nat):Int) == 5) = false:=by decide
          have e5:(((8:Nat):Int) == 6) = false:=by decide
          have e6:(((8:Nat):Int) == 7) = false:=by decide
          have e7:(((8:Nat):Int) == 8) = true:=by decide
          obtain ⟨y,z,hyz⟩ : ∃ y z,rnumN q.data.toList 2147483647 = (y,z):=⟨_,_,rfl⟩
          by_cases z0:z = 0
          · subst z0
            have hle:=(rnum_inv _ _ _ hyz).1
            have zr:=fun W:World => oread_c q 2147483647 2147483647 rfl W sz (by decide) (b:=true) hyz (by simp)
            have HS2:Hid (readG csNode (zeroG csNode) (m.take (j + 1)) = some [ValN.num cu0,ValN.num cu1,ValN.num cu2,ValN.num cu3,ValN.num cu4,ValN.num cu5,ValN.num cu6,ValN.num (y:Int),ValN.lst Lu]):=by
             show _ = _
             rw [HS.out]
             exact step_at (show codeAt csNode 8 = some nI from rfl) (numV_yes hyz)
            have w1:IntKind.i64.wrap (y:Int) = (y:Int):=by simp [IntKind.wrap,IntKind.bits,IntKind.signed]; omega
            clear HS HN hyz
            go_wp2_with (go_at_call 176; ((with_reducible refine (zr _).mono ?_); rintro e w3 ⟨rfl,g3⟩; have H3:=H.quiet g3; have kx:=blk_cell H3.second 8 (v:=.int .i64 cu8) rfl; have fx:=blk_free H3.second 8))
            have H4:=(H3.swap.store 8 (.int .i64 (y:Int))).swap
            go_roundw
            case rel => exact ⟨j + 1,by omega,by go_num,cu0,cu1,cu2,cu3,cu4,cu5,cu6,(y:Int),Al,nl,cl,Lu,H4,HG.out.1,HS2.out⟩
            case measure => simp [intOf]; omega
          · obtain ⟨rfl,rfl⟩ : y = 0 ∧ z = 3:=by
             rcases rnum_codes q.data.toList 2147483647 with k | k
             · rw [hyz] at k; exact absurd k z0
             · rw [hyz] at k; injection k with k1 k2; exact ⟨k1,k2⟩
            have zr:=fun W:World => oread_c q 2147483647 2147483647 rfl W sz (by decide) (b:=false) hyz (by simp)
            have hst:stepG csNode [ValN.num cu0,ValN.num cu1,ValN.num cu2,ValN.num cu3,ValN.num cu4,ValN.num cu5,ValN.num cu6,ValN.num cu8,ValN.lst Lu] ⟨8,q⟩ = none:=step_bad (show codeAt csNode 8 = some nI from rfl) (numV_no hyz)
            obtain ⟨hv,rfl⟩:=HN hst
            simp only [ValN.num.injEq,ValN.lst.injEq,List.cons.injEq,and_true] at hv
            obtain ⟨rfl,rfl,rfl,rfl,rfl,rfl,rfl,rfl,rfl⟩:=hv
            clear HS HN hst HR HG
            go_wp2_with (first
             | (go_at_call 176; ((with_reducible refine (zr _).mono ?_); rintro e w3 ⟨rfl,g3⟩; have H3:=H.quiet g3; have kx:=blk_cell H3.second 8 (v:=.int .i64 cu8) rfl; have fx:=blk_free H3.second 8; have H4:=H3.swap.store 8 (.int .i64 0); have hR:=H4.drop.drop.head))
             | (with_reducible refine wpList_store_row rfl 32 (.tmp 2) (.tmp 185) rfl w.heap.size zcNode rfl rfl 32 zcNode hR (by kernel_rfl) rfl (by simp [Value.oneCell']) ?_; obtain ⟨g6,h6⟩:=setRow_facts zcNode hR))
            have W6:Wider w _:=g6.wider H4.wider (by intro i m; simp only [List.mem_singleton] at m; omega)
            have hl:=run_loadVar_row (P:=Tryz.prog) _ w.heap.size 32 32 _ (0,0) _ h6 Tryz.underlying32 rfl (by kernel_rfl)
            simp [bodyPost,results,Tryz.results141,asAddr,hl]
            exact ⟨none,0,0,by simp,W6,rfl,World.ownsRow_nil _ _ _ _⟩
        by_cases t8:t = 9
        · subst t8
          have e0:(((9:Nat):Int) == 1) = false:=by decide
          have e1:(((9:Nat):Int) == 2) = false:=by decide
          have e2:(((9:Nat):Int) == 3) = false:=by decide
          have e3:(((9:Nat):Int) == 4) = false:=by decide
          have e4:(((9:Nat):Int) == 5) = false:=by decide
          have e5:(((9:Nat):Int) == 6) = false:=by decide
          have e6:(((9:Nat):Int) == 7) = false:=by decide
          have e7:(((9:Nat):Int) == 8) = false:=by decide
          have e8:(((9:Nat):Int) == 9) = true:=by decide
          have hLu:Lu = []:=by
           have q1:=readG_fresh (decA_okA HD.out) HG.out.2 HX.out
           have q2:some (ValN.lst Lu) = some (ValN.lst []):=q1
           injection q2 with q2
           injection q2
          subst hLu
          obtain rfl:0 = nl:=HG.out.1
          obtain ⟨it,z,hyz⟩ : ∃ it z,decT [] 32 q.data.toList = (it,z):=⟨_,_,rfl⟩
          obtain ⟨ni,hni⟩ : ∃ ni,it.length = ni:=⟨_,rfl⟩
          obtain ⟨b0,hb0⟩ : ∃ b:Bool,b = true ↔ z = 0:=⟨decide (z = 0),decide_eq_true_iff⟩
          have zi:=fun W:World => oitems_o q 32 32 rfl W sz (by decide) hyz hni hb0
          have HK0:Hid (([] : List (List Int)).length = 0 ∧ (b0 = true → z = 0 ∧ mapD cArm.dec (it.take 0) = some []) ∧ (b0 = false → stepG csNode [ValN.num cu0,ValN.num cu1,ValN.num cu2,ValN.num cu3,ValN.num cu4,ValN.num cu5,ValN.num cu6,ValN.num cu8,ValN.lst []] ⟨9,q⟩ = none)) :=
           ⟨rfl,fun e => ⟨hb0.1 e,rfl⟩,fun e => step_bad (show codeAt csNode 9 = some lArms from rfl) (lstV_bad (hm:=by decide) (hi:=by decide) hyz (fun k => by rw [hb0.2 k] at e; cases e))⟩
          have HI:=Lib.hid hyz
          have HNI:=Lib.hid hni
          clear hyz hni hb0
          go_wp2_with (go_at_call 177; ((with_reducible refine (zi _).mono ?_); rintro e w3 ⟨Aa,ca,rfl,g3,h3⟩; have H3:=(H.row g3 h3).in5))
          clear zi H
          go_loopw [9,12] (fun ok i wr => ∃ k:Nat,k ≤ ni ∧ i = .int .i64 (k:Int) ∧ ∃ (bo:Bool) (Bl:Option Addr) (dl:Nat) (Lk:List (List Int)),ok = .bool bo ∧ Own w wr [rowT 61 2 (.slice Bl k dl) k (cellsK ksArm Lk),blkT (w.heap.size + 1) #[.int .i64 cu0,.int .i64 cu1,.int .i64 cu2,.int .i64 cu3,.int .i64 cu4,.int .i64 cu5,.int .i64 cu6,.slice Bl k dl,.int .i64 cu8] 32,rowT 9 1 (.slice Aa ni ca) ni (cellsS it),rowT 77 2 (.slice (some a) n cp) n (cellsA m),blkT w.heap.size zcNode 32] ∧ Hid (Lk.length = k ∧ (bo = true → z = 0 ∧ mapD cArm.dec (it.take k) = some Lk) ∧ (bo = false → stepG csNode [ValN.num cu0,ValN.num cu1,ValN.num cu2,ValN.num cu3,ValN.num cu4,ValN.num cu5,ValN.num cu6,ValN.num cu8,ValN.lst []] ⟨9,q⟩ = none))) (fun _ i _ => ni - (intOf i).toNat)
          case atStart => exact ⟨0,by omega,by simp,b0,Al,cl,[],rfl,H3,HK0⟩
          case round =>
           obtain ⟨k,hk,rfl,bo,Bl,dl,Lk,rfl,H,HK⟩:=hrel
           clear H3 HK0
           cases bo with
           | false =>
             have hst:=HK.out.2.2 rfl
             have hR:=H.drop.drop.drop.drop.head
             by_cases ck:k < ni
             · have j2:(k:Int) < (ni:Int):=by omega
               obtain ⟨hv,rfl⟩:=HN hst
               simp only [ValN.num.injEq,ValN.lst.injEq,List.cons.injEq,and_true] at hv
               obtain ⟨rfl,rfl,rfl,rfl,rfl,rfl,rfl,rfl,rfl⟩:=hv
               clear HS HN hst HR HG
               go_wp2_with (first
                | (with_reducible refine wpList_store_row rfl 32 (.tmp 2) (.tmp 185) rfl w.heap.size zcNode rfl rfl 32 zcNode hR (by kernel_rfl) rfl (by simp [Value.oneCell']) ?_; obtain ⟨g6,h6⟩:=setRow_facts zcNode hR))
               have W6:Wider w _:=g6.wider H.wider (by intro i m; simp only [List.mem_singleton] at m; omega)
               have hl:=run_loadVar_row (P:=Tryz.prog) _ w.heap.size 32 32 _ (0,0) _ h6 Tryz.underlying32 rfl (by kernel_rfl)
               simp [bodyPost,results,Tryz.results141,asAddr,hl]
               exact ⟨none,0,0,by simp,W6,rfl,World.ownsRow_nil _ _ _ _⟩
             · have j2:¬ (k:Int) < (ni:Int):=by omega
               obtain ⟨hv,rfl⟩:=HN hst
               simp only [ValN.num.injEq,ValN.lst.injEq,List.cons.injEq,and_true] at hv
               obtain ⟨rfl,rfl,rfl,rfl,rfl,rfl,rfl,rfl,rfl⟩:=hv
               clear HS HN hst HR HG
               go_wp2_with (first
                | (with_reducible refine wpList_store_row rfl 32 (.tmp 2) (.tmp 185) rfl w.heap.size zcNode rfl rfl 32 zcNode hR (by kernel_rfl) rfl (by simp [Value.oneCell']) ?_; obtain ⟨g6,h6⟩:=setRow_facts zcNode hR))
               have W6:Wider w _:=g6.wider H.wider (by intro i m; simp only [List.mem_singleton] at m; omega)
               have hl:=run_loadVar_row (P:=Tryz.prog) _ w.heap.size 32 32 _ (0,0) _ h6 Tryz.underlying32 rfl (by kernel_rfl)
               simp [bodyPost,results,Tryz.results141,asAddr,hl]
               exact ⟨none,0,0,by simp,W6,rfl,World.ownsRow_nil _ _ _ _⟩
           | true =>
             obtain ⟨hz0,hmd⟩:=HK.out.2.1 rfl
             subst hz0
             by_cases ck:k < ni
             · have j2:(0:Int) ≤ (k:Int):=by omega
               have j3:(k:Int) < (ni:Int):=by omega
               obtain ⟨x2,hx2⟩:=next_some it k (by rw [HNI.out]; exact ck)
               have hl2:=H.drop.drop.strs
               cases Aa with
               | none => exact absurd (hl2.none_ rfl) (by intro e; rw [e] at hx2; simp at hx2)
               | some a2 =>
                 have cq:=hl2.cell a2 rfl k x2 hx2
                 have sz2:x2.size < 1000000:=item_small HI.out sz hx2
                 have hmo:ni ≤ 32:=by have q:=decT_most HI.out; rw [HNI.out] at q; exact q
                 have X1:Hid (k + 1 ≤ maxLen):=by show _ ≤ maxLen; unfold maxLen; omega
                 have X2:Hid ((k + 1) * 16 ≤ 140737488355328):=by show _ ≤ _; omega
                 obtain ⟨yl,r1,hdec⟩ : ∃ yl r1,decG csArm x2.data.toList = (yl,r1):=⟨_,_,rfl⟩
                 have hyl:=decG_items csArm x2.data.toList
                 rw [hdec] at hyl
                 obtain ⟨a0,a1,rfl⟩ : ∃ a0 a1:Int,yl = [a0,a1]:=by
                  match yl,hyl with
                  | [a0,a1],_ => exact ⟨_,_,rfl⟩
                 obtain ⟨b1,hb1⟩ : ∃ b:Bool,b = true ↔ r1 = 0:=⟨decide (r1 = 0),decide_eq_true_iff⟩
                 have zy:=fun W:World => oreadArm_c x2 W sz2 hdec hb1
                 have HK2:Hid ((Lk ++ [[a0,a1]]).length = k + 1 ∧ (b1 = true → 0 = 0 ∧ mapD cArm.dec (it.take (k + 1)) = some (Lk ++ [[a0,a1]])) ∧ (b1 = false → stepG csNode [ValN.num cu0,ValN.num cu1,ValN.num cu2,ValN.num cu3,ValN.num cu4,ValN.num cu5,ValN.num cu6,ValN.num cu8,ValN.lst []] ⟨9,q⟩ = none)) :=
                  ⟨by rw [List.length_append,HK.out.1]; rfl,fun e => ⟨rfl,mapD_some_snoc hmd hx2 (show cArm.dec x2 = some [a0,a1] from by show (if (decG csArm x2.data.toList).2 = 0 then some (decG csArm x2.data.toList).1 else none) = _; rw [hdec,hb1.1 e]; rfl)⟩,fun e => step_bad (show codeAt csNode 9 = some lArms from rfl) (lstV_no (hm:=by decide) (hi:=by decide) HI.out (mapD_none_snoc hmd hx2 (show cArm.dec x2 = none from by show (if (decG csArm x2.data.toList).2 = 0 then some (decG csArm x2.data.toList).1 else none) = _; rw [hdec]; exact if_neg (fun k => by rw [hb1.2 k] at e; cases e))))⟩
                 have SN:Hid (cellsK ksArm Lk ++ #[.int .u32 a0,.int .i64 a1].toList = cellsK ksArm (Lk ++ [[a0,a1]])):=(cellsK_snoc ksArm Lk [a0,a1]).symm
                 clear hx2 hdec hb1 hmd HK hyl
                 go_wp2_with (first
                  | (go_at_call 178; ((with_reducible refine (zy _).mono ?_); rintro e w3 ⟨rfl,g3⟩; have H4:=(H.quiet g3).blk #[.int .u32 0,.int .i64 0] 61))
                  | (with_reducible refine wpList_store_row rfl 61 (.tmp 13) (.tmp 174) rfl w3.heap.size #[.int .u32 a0,.int .i64 a1] rfl rfl 61 #[.int .u32 0,.int .i64 0] H4.head (by kernel_rfl) rfl (by simp [Value.oneCell']) ?_; obtain ⟨g5,h5⟩:=setRow_facts #[.int .u32 a0,.int .i64 a1] H4.head; have H5:=H4.turn (s:=blkT w3.heap.size #[.int .u32 a0,.int .i64 a1] 61) g5 h5 (blk_stable _ _ _) (fun i m => ⟨.inl m,by simp only [List.mem_singleton] at m; subst m; exact (Array.getElem?_eq_some_iff.1 h5).1⟩); have kx:=blk_cell H5.drop.second 7 (v:=.slice Bl k dl) rfl)
                  | (with_reducible refine wpList_load_row rfl 61 (.tmp 13) rfl w3.heap.size rfl 61 #[.int .u32 a0,.int .i64 a1] (0,0) _ H5.head Tryz.underlying61 rfl (by kernel_rfl) ?_; obtain ⟨wB,hwB⟩ : ∃ wB,(w3.alloc (.cells #[.int .u32 0,.int .i64 0] 61)).setRow w3.heap.size #[.int .u32 a0,.int .i64 a1] = wB:=⟨_,rfl⟩; rw [hwB] at H5 kx ⊢; have H6:=Lib.hid (H5.drop.quiet ((Wider.refl wB).alloc (.cells #[.int .u32 a0,.int .i64 a1] 61))); have SIDE:=Lib.hid (liesL wB #[.int .u32 a0,.int .i64 a1] 61 (by simp [Value.oneCell'])); clear H5)
                  | (at_builtin; refine wpList_append_thing rfl (.tmp 178) (.tmp 180) 30 rfl 61 i0 (.agg #[.int .u32 0,.int .i64 0]) 2 16 Tryz.underlying30 hi0 hp0 hq0 hr0 rfl (by decide) (.slice Bl k dl) k (cellsK ksArm Lk) rfl H6.out (some ⟨wB.heap.size,0,none⟩) 1 1 #[.int .u32 a0,.int .i64 a1].toList rfl rfl (fun e => by cases e) (fun a e => by cases e; exact SIDE.out.1) SIDE.out.2 X1.out X2.out rfl SN.out ?_; intro B3 c3 w6 H7; have H8:=H7.swap; have kx:=blk_cell H8.head 7 (v:=.slice Bl k dl) rfl; have fx:=blk_free H8.head 7))
                 have H9:=(H8.store 7 (.slice B3 (k + 1) c3)).swap
                 go_roundw
                 case rel => exact ⟨k + 1,by omega,by go_num,b1,B3,c3,Lk ++ [[a0,a1]],rfl,H9,HK2⟩
                 case measure => simp [intOf]; omega
             · obtain rfl:k = ni:=by omega
               have j2:¬ (k:Int) < (k:Int):=by omega
               rw [List.take_of_length_le (by rw [HNI.out]; exact Nat.le_refl _)] at hmd
               have HS2:Hid (readG csNode (zeroG csNode) (m.take (j + 1)) = some [ValN.num cu0,ValN.num cu1,ValN.num cu2,ValN.num cu3,ValN.num cu4,ValN.num cu5,ValN.num cu6,ValN.num cu8,ValN.lst Lk]):=by
                show _ = _
                rw [HS.out]
                exact step_at (show codeAt csNode 9 = some lArms from rfl) (lstV_yes (hm:=by decide) (hi:=by decide) HI.out hmd)
               have H4:=H.out5.drop
               have HL:=HK.out.1
               clear HS HN hmd HK H
               go_wp2
               go_roundw
               case rel => exact ⟨j + 1,by omega,by go_num,cu0,cu1,cu2,cu3,cu4,cu5,cu6,cu8,Bl,_,dl,Lk,H4,HL,HS2.out⟩
               case measure => simp [intOf]; omega
        have e0:((t:Int) == 1) = false:=by rw [beq_eq_false_iff_ne]; omega
        have e1:((t:Int) == 2) = false:=by rw [beq_eq_false_iff_ne]; omega
        have e2:((t:Int) == 3) = false:=by rw [beq_eq_false_iff_ne]; omega
        have e3:((t:Int) == 4) = false:=by rw [beq_eq_false_iff_ne]; omega
        have e4:((t:Int) == 5) = false:=by rw [beq_eq_false_iff_ne]; omega
        have e5:((t:Int) == 6) = false:=by rw [beq_eq_false_iff_ne]; omega
        have e6:((t:Int) == 7) = false:=by rw [beq_eq_false_iff_ne]; omega
        have e7:((t:Int) == 8) = false:=by rw [beq_eq_false_iff_ne]; omega
        have e8:((t:Int) == 9) = false:=by rw [beq_eq_false_iff_ne]; omega
        have hst:stepG csNode [ValN.num cu0,ValN.num cu1,ValN.num cu2,ValN.num cu3,ValN.num cu4,ValN.num cu5,ValN.num cu6,ValN.num cu8,ValN.lst Lu] ⟨t,q⟩ = none:=step_none (by show ¬ (1 ≤ t ∧ t ≤ 9); omega)
        have hR:=H.drop.drop.head
        obtain ⟨hv,rfl⟩:=HN hst
        simp only [ValN.num.injEq,ValN.lst.injEq,List.cons.injEq,and_true] at hv
        obtain ⟨rfl,rfl,rfl,rfl,rfl,rfl,rfl,rfl,rfl⟩:=hv
        clear HS HN hst HR HG
        go_wp2_with (first
         | (with_reducible refine wpList_store_row rfl 32 (.tmp 2) (.tmp 185) rfl w.heap.size zcNode rfl rfl 32 zcNode hR (by kernel_rfl) rfl (by simp [Value.oneCell']) ?_; obtain ⟨g6,h6⟩:=setRow_facts zcNode hR))
        have W6:Wider w _:=g6.wider H.wider (by intro i m; simp only [List.mem_singleton] at m; omega)
        have hl:=run_loadVar_row (P:=Tryz.prog) _ w.heap.size 32 32 _ (0,0) _ h6 Tryz.underlying32 rfl (by kernel_rfl)
        simp [bodyPost,results,Tryz.results141,asAddr,hl]
        exact ⟨none,0,0,by simp,W6,rfl,World.ownsRow_nil _ _ _ _⟩
    · obtain rfl:j = n:=by omega
      have j2:¬ (j:Int) < (j:Int):=by omega
      have q:=HR.out
      have q2:=HG.out.2
      rw [List.take_of_length_le (by rw [HM.out]; exact Nat.le_refl _)] at q2
      rw [decG_some HD.out q2] at q
      injection q with q3 q4
      subst q4
      simp only [ValN.num.injEq,ValN.lst.injEq,List.cons.injEq,and_true] at q3
      obtain ⟨rfl,rfl,rfl,rfl,rfl,rfl,rfl,rfl,rfl⟩:=q3
      have HL:=HG.out.1
      have hX:=H.second
      have hR:=H.drop.drop.head
      clear q2 HG HR
      go_wp2_with (first
       | (with_reducible refine wpList_load_row rfl 32 (.tmp 4) rfl (w.heap.size + 1) rfl 32 #[.int .i64 cu0,.int .i64 cu1,.int .i64 cu2,.int .i64 cu3,.int .i64 cu4,.int .i64 cu5,.int .i64 cu6,.slice Al nl cl,.int .i64 cu8] (0,0) _ hX Tryz.underlying32 rfl (by kernel_rfl) ?_)
       | (with_reducible refine wpList_store_row rfl 32 (.tmp 2) (.tmp 186) rfl w.heap.size #[.int .i64 cu0,.int .i64 cu1,.int .i64 cu2,.int .i64 cu3,.int .i64 cu4,.int .i64 cu5,.int .i64 cu6,.slice Al nl cl,.int .i64 cu8] rfl rfl 32 zcNode hR (by kernel_rfl) rfl (by simp [Value.oneCell']) ?_; obtain ⟨g6,h6⟩:=setRow_facts #[.int .i64 cu0,.int .i64 cu1,.int .i64 cu2,.int .i64 cu3,.int .i64 cu4,.int .i64 cu5,.int .i64 cu6,.slice Al nl cl,.int .i64 cu8] hR))
      have HT:=H.third.turn (s:=blkT w.heap.size #[.int .i64 cu0,.int .i64 cu1,.int .i64 cu2,.int .i64 cu3,.int .i64 cu4,.int .i64 cu5,.int .i64 cu6,.slice Al nl cl,.int .i64 cu8] 32) g6 h6 (blk_stable _ _ _) (fun i m => ⟨.inl m,by simp only [List.mem_singleton] at m; subst m; exact (Array.getElem?_eq_some_iff.1 h6).1⟩)
      have W6:Wider w _:=g6.wider H.wider (by intro i m; simp only [List.mem_singleton] at m; omega)
      have hl:=run_loadVar_row (P:=Tryz.prog) _ w.heap.size 32 32 _ (0,0) _ h6 Tryz.underlying32 rfl (by kernel_rfl)
      simp [bodyPost,results,Tryz.results141,asAddr,hl]
      exact ⟨Al,nl,cl,by simp,W6,(by first | exact HL | rfl),own_base HT.drop.drop.drop⟩
 · have q:=HR.out
   rw [decG_err HD.out c0] at q
   injection q with q1 q2
   subst q2
   have q3:[ValN.num v0,ValN.num v1,ValN.num v2,ValN.num v3,ValN.num v4,ValN.num v5,ValN.num v6,ValN.num v8,ValN.lst L] = [ValN.num 0,ValN.num 0,ValN.num 0,ValN.num 0,ValN.num 0,ValN.num 0,ValN.num 0,ValN.num 0,ValN.lst []]:=q1.symm
   simp only [ValN.num.injEq,ValN.lst.injEq,List.cons.injEq,and_true] at q3
   obtain ⟨rfl,rfl,rfl,rfl,rfl,rfl,rfl,rfl,rfl⟩:=q3
   have d0:((c:Int) != 0) = true:=by rw [bne_iff_ne]; omega
   clear HR q1
   go_enter Tryz.func141,Tryz.ntmps141
   go_wp2_with (first
    | (go_at_call 31; ((with_reducible refine (zd _).mono ?_); rintro e w2 ⟨A,cp,rfl,g2,h2⟩; have H1:=H0.quiet g2; have hX:=H1.head; have hR:=H1.second))
    | (with_reducible refine wpList_load_row rfl 32 (.tmp 4) rfl (w.heap.size + 1) rfl 32 zcNode (0,0) _ hX Tryz.underlying32 rfl (by kernel_rfl) ?_)
    | (with_reducible refine wpList_store_row rfl 32 (.tmp 2) (.tmp 22) rfl w.heap.size zcNode rfl rfl 32 zcNode hR (by kernel_rfl) rfl (by simp [Value.oneCell']) ?_; obtain ⟨g6,h6⟩:=setRow_facts zcNode hR))
   have W6:Wider w _:=g6.wider H1.wider (by intro i m; simp only [List.mem_singleton] at m; omega)
   have hl:=run_loadVar_row (P:=Tryz.prog) _ w.heap.size 32 32 _ (0,0) _ h6 Tryz.underlying32 rfl (by kernel_rfl)
   simp [bodyPost,results,Tryz.results141,asAddr,hl]
   exact ⟨none,0,0,by simp,W6,rfl,World.ownsRow_nil _ _ _ _⟩
end Go.Proofs.YtoopdhgmdjienaaGreatDoor
