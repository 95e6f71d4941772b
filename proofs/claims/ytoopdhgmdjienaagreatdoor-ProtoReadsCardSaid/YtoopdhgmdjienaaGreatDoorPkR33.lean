/- OReadEntry -/
import Derived.Test.YtoopdhgmdjienaaGreatDoorPkR29
namespace Go.Proofs.YtoopdhgmdjienaaGreatDoor
set_option linter.unusedVariables false
set_option maxRecDepth 20000
open Go.ChangeShapes Go.WideShapes Go.ChangeAt Go.RowKit Go.Joins
open Go.ChangeMaps (open_string shut_string)
set_option maxHeartbeats 64000000
abbrev zcEntry:Array Value:=#[.int .i64 0,.string ⟨#[]⟩,.string ⟨#[]⟩,.int .i64 0,.int .i64 0,.int .i64 0,.slice none 0 0,.int .i64 0,.int .i64 0,.int .u64 0,.bool false]
theorem oreadEntry_c (s:ByteArray) (w:World) (hs:s.size < 1000000) {v0 v3 v4 v5 v7 v8 v9 v10:Int} {v1 v2:ByteArray} {L:List (List Int)} {r:Nat} (hr:decG csEntry s.data.toList = ([ValN.num v0,ValN.txt v1,ValN.txt v2,ValN.num v3,ValN.num v4,ValN.num v5,ValN.lst L,ValN.num v7,ValN.num v8,ValN.num v9,ValN.num v10],r)) :
 Calls Tryz.prog 144 #[.string s] w fun e w' => ∃ (A:Option Addr) (n cap:Nat),e = .returned (.tuple #[.agg #[.int .i64 v0,.string v1,.string v2,.int .i64 v3,.int .i64 v4,.int .i64 v5,.slice A n cap,.int .i64 v7,.int .i64 v8,.int .u64 v9,.bool (v10 == 1)],.int .i64 (r:Int)]) ∧ Wider w w' ∧ L.length = n ∧ w'.ownsRow w.heap.size 28 1 (.slice A n cap) n (cellsK ksArg L):=by
 obtain ⟨m,c,hd⟩ : ∃ m c,decA [] 0 s.data.toList = (m,c):=⟨_,_,rfl⟩
 have H0:=((Own.nil (Wider.refl w)).blk zcEntry 39).blk zcEntry 39
 have hz:(w.alloc (.cells zcEntry 39)).heap.size = w.heap.size + 1:=by simp
 rw [hz] at H0
 have HR:=Lib.hid hr
 have hl:=decA_few hd
 obtain ⟨n,hn⟩ : ∃ n,m.length = n:=⟨_,rfl⟩
 rw [hn] at hl
 have HM:=Lib.hid hn
 have zd:=fun W:World => odec_c s W hs hd hn
 have HD:=Lib.hid hd
 clear hr hz hd hn
 obtain ⟨i0,hi0,hp0,hq0,hr0⟩:=info_parts infoArg
 by_cases c0:c = 0
 · subst c0
   go_enter Tryz.func144,Tryz.ntmps144
   go_wp2_with (go_at_call 31; ((with_reducible refine (zd _).mono ?_); rintro e w2 ⟨A,cp,rfl,g2,h2⟩; have H1:=(H0.row g2 h2).nils 28 1))
   clear H0 zd g2 h2
   go_loopw [7] (fun i wr => ∃ j:Nat,j ≤ n ∧ i = .int .i64 (j:Int) ∧ ∃ (cu0 cu3 cu4 cu5 cu7 cu8 cu9 cu10:Int) (cu1 cu2:ByteArray) (Al:Option Addr) (nl cl:Nat) (Lu:List (List Int)),Own w wr [rowT 77 2 (.slice A n cp) n (cellsA m),blkT (w.heap.size + 1) #[.int .i64 cu0,.string cu1,.string cu2,.int .i64 cu3,.int .i64 cu4,.int .i64 cu5,.slice Al nl cl,.int .i64 cu7,.int .i64 cu8,.int .u64 cu9,.bool (cu10 == 1)] 39,blkT w.heap.size zcEntry 39,rowT 28 1 (.slice Al nl cl) nl (cellsK ksArg Lu)] ∧ Hid (Lu.length = nl ∧ readG csEntry (zeroG csEntry) (m.take j) = some [ValN.num cu0,ValN.txt cu1,ValN.txt cu2,ValN.num cu3,ValN.num cu4,ValN.num cu5,ValN.lst Lu,ValN.num cu7,ValN.num cu8,ValN.num cu9,ValN.num cu10])) (fun i _ => n - (intOf i).toNat)
   case atStart => exact ⟨0,by omega,by simp,0,0,0,0,0,0,0,0,⟨#[]⟩,⟨#[]⟩,none,0,0,[],H1,rfl,rfl⟩
   case round =>
    obtain ⟨j,hj,rfl,cu0,cu3,cu4,cu5,cu7,cu8,cu9,cu10,cu1,cu2,Al,nl,cl,Lu,H,HG⟩:=hrel
    clear H1
    by_cases cj:j < n
    · have j0:(0:Int) ≤ (j:Int):=by omega
      have j1:(j:Int) < (n:Int):=by omega
      obtain ⟨x,hx⟩:=next_some m j (by rw [HM.out]; exact cj)
      obtain ⟨A',cp',ea,ha,_⟩:=atsAt_own H.head
      injection ea with ea1 ea2 ea3
      subst ea1 ea3
      cases A with
      | none => exact absurd (ha.none_ rfl) (by intro e; rw [e] at hx; simp at hx)
      | some a =>
        have hA:=ha.cell a rfl j x hx
        have HX:=Lib.hid hx
        have HS:Hid (readG csEntry (zeroG csEntry) (m.take (j + 1)) = stepG csEntry [ValN.num cu0,ValN.txt cu1,ValN.txt cu2,ValN.num cu3,ValN.num cu4,ValN.num cu5,ValN.lst Lu,ValN.num cu7,ValN.num cu8,ValN.num cu9,ValN.num cu10] x):=readG_next HG.out.2 hx
        have HN:stepG csEntry [ValN.num cu0,ValN.txt cu1,ValN.txt cu2,ValN.num cu3,ValN.num cu4,ValN.num cu5,ValN.lst Lu,ValN.num cu7,ValN.num cu8,ValN.num cu9,ValN.num cu10] x = none → ([ValN.num v0,ValN.txt v1,ValN.txt v2,ValN.num v3,ValN.num v4,ValN.num v5,ValN.lst L,ValN.num v7,ValN.num v8,ValN.num v9,ValN.num v10] = [ValN.num 0,ValN.txt ⟨#[]⟩,ValN.txt ⟨#[]⟩,ValN.num 0,ValN.num 0,ValN.num 0,ValN.lst [],ValN.num 0,ValN.num 0,ValN.num 0,ValN.num 0] ∧ r = 3):=fun e => by
         have q:=HR.out
         rw [decG_none HD.out (readG_stuck HG.out.2 hx e)] at q
         injection q with q1 q2
         exact ⟨q1.symm,q2.symm⟩
        have sz:x.v.size < 1000000:=attr_small HD.out hs hx
        clear hx ha
        obtain ⟨t,q⟩:=x
        have ⟨k0,k1⟩:=hA
        have k2:=hA.flat
        simp only at k0 k1 k2 sz
        clear hA
        by_cases t0:t = 1
        · as_aux_lemma =>
          subst t0
          have e0:(((1:Nat):Int) == 1) = true:=by decide
          obtain ⟨y,z,hyz⟩ : ∃ y z,rnumN q.data.toList 2147483647 = (y,z):=⟨_,_,rfl⟩
          by_cases z0:z = 0
          · subst z0
            have hle:=(rnum_inv _ _ _ hyz).1
            have zr:=fun W:World => oread_c q 2147483647 2147483647 rfl W sz (by decide) (b:=true) hyz (by simp)
            have HS2:Hid (readG csEntry (zeroG csEntry) (m.take (j + 1)) = some [ValN.num (y:Int),ValN.txt cu1,ValN.txt cu2,ValN.num cu3,ValN.num cu4,ValN.num cu5,ValN.lst Lu,ValN.num cu7,ValN.num cu8,ValN.num cu9,ValN.num cu10]):=by
             show _ = _
             rw [HS.out]
             exact step_at (show codeAt csEntry 1 = some nI from rfl) (numV_yes hyz)
            have w1:IntKind.i64.wrap (y:Int) = (y:Int):=by simp [IntKind.wrap,IntKind.bits,IntKind.signed]; omega
            clear HS HN hyz
            go_wp2_with (go_at_call 176; ((with_reducible refine (zr _).mono ?_); rintro e w3 ⟨rfl,g3⟩; have H3:=H.quiet g3; have kx:=blk_cell H3.second 0 (v:=.int .i64 cu0) rfl; have fx:=blk_free H3.second 0))
            have H4:=(H3.swap.store 0 (.int .i64 (y:Int))).swap
            go_roundw
            case rel => exact ⟨j + 1,by omega,by go_num,(y:Int),cu3,cu4,cu5,cu7,cu8,cu9,cu10,cu1,cu2,Al,nl,cl,Lu,H4,HG.out.1,HS2.out⟩
            case measure => simp [intOf]; omega
          · obtain ⟨rfl,rfl⟩ : y = 0 ∧ z = 3:=by
             rcases rnum_codes q.data.toList 2147483647 with k | k
             · rw [hyz] at k; exact absurd k z0
             · rw [hyz] at k; injection k with k1 k2; exact ⟨k1,k2⟩
            have zr:=fun W:World => oread_c q 2147483647 2147483647 rfl W sz (by decide) (b:=false) hyz (by simp)
            have hst:stepG csEntry [ValN.num cu0,ValN.txt cu1,ValN.txt cu2,ValN.num cu3,ValN.num cu4,ValN.num cu5,ValN.lst Lu,ValN.num cu7,ValN.num cu8,ValN.num cu9,ValN.num cu10] ⟨1,q⟩ = none:=step_bad (show codeAt csEntry 1 = some nI from rfl) (numV_no hyz)
            obtain ⟨hv,rfl⟩:=HN hst
            simp only [ValN.num.injEq,ValN.txt.injEq,ValN.lst.injEq,List.cons.injEq,and_true] at hv
            obtain ⟨rfl,rfl,rfl,rfl,rfl,rfl,rfl,rfl,rfl,rfl,rfl⟩:=hv
            clear HS HN hst HR HG
            go_wp2_with (first
             | (go_at_call 176; ((with_reducible refine (zr _).mono ?_); rintro e w3 ⟨rfl,g3⟩; have H3:=H.quiet g3; have kx:=blk_cell H3.second 0 (v:=.int .i64 cu0) rfl; have fx:=blk_free H3.second 0; have H4:=H3.swap.store 0 (.int .i64 0); have hR:=H4.drop.drop.head))
             | (with_reducible refine wpList_store_row rfl 39 (.tmp 2) (.tmp 211) rfl w.heap.size zcEntry rfl rfl 39 zcEntry hR (by kernel_rfl) rfl (by simp [Value.oneCell']) ?_; obtain ⟨g6,h6⟩:=setRow_facts zcEntry hR))
            have W6:Wider w _:=g6.wider H4.wider (by intro i m; simp only [List.mem_singleton] at m; omega)
            have hl:=run_loadVar_row (P:=Tryz.prog) _ w.heap.size 39 39 _ (0,0) _ h6 Tryz.underlying39 rfl (by kernel_rfl)
            simp [bodyPost,results,Tryz.results144,asAddr,hl]
            exact ⟨none,0,0,by simp,W6,rfl,World.ownsRow_nil _ _ _ _⟩
        by_cases t1:t = 2
        · as_aux_lemma =>
          subst t1
          have e0:(((2:Nat):Int) == 1) = false:=by decide
          have e1:(((2:Nat):Int) == 2) = true:=by decide
          have kx:=blk_cell H.second 1 (v:=.string cu1) rfl
          have fx:=blk_free H.second 1
          by_cases z0:q.size ≤ 32
          · have j2:(q.size:Int) ≤ 32:=by omega
            have HS2:Hid (readG csEntry (zeroG csEntry) (m.take (j + 1)) = some [ValN.num cu0,ValN.txt q,ValN.txt cu2,ValN.num cu3,ValN.num cu4,ValN.num cu5,ValN.lst Lu,ValN.num cu7,ValN.num cu8,ValN.num cu9,ValN.num cu10]):=by
             show _ = _
             rw [HS.out]
             exact step_at (show codeAt csEntry 2 = some tK from rfl) (if_pos z0)
            clear HS HN
            have H4:=(H.swap.store 1 (.string q)).swap
            obtain ⟨_,_,eb,hb,_⟩:=atsAt_own (H4).head
            injection eb with eb1 eb2 eb3
            subst eb1
            have hB:=hb.cell a rfl j ⟨_,q⟩ HX.out
            have ⟨k3,k4⟩:=hB
            have k5:=hB.flat
            simp only at k3 k4 k5
            clear hB hb
            go_wp2
            go_roundw
            case rel => exact ⟨j + 1,by omega,by go_num,cu0,cu3,cu4,cu5,cu7,cu8,cu9,cu10,q,cu2,Al,nl,cl,Lu,H4,HG.out.1,HS2.out⟩
            case measure => simp [intOf]; omega
          · have j2:¬ (q.size:Int) ≤ 32:=by omega
            have hst:stepG csEntry [ValN.num cu0,ValN.txt cu1,ValN.txt cu2,ValN.num cu3,ValN.num cu4,ValN.num cu5,ValN.lst Lu,ValN.num cu7,ValN.num cu8,ValN.num cu9,ValN.num cu10] ⟨2,q⟩ = none:=step_bad (show codeAt csEntry 2 = some tK from rfl) (if_neg z0)
            have H4:=H.swap.store 1 (.string q)
            have hR:=H4.drop.drop.head
            obtain ⟨_,_,eb,hb,_⟩:=atsAt_own (H4.swap).head
            injection eb with eb1 eb2 eb3
            subst eb1
            have hB:=hb.cell a rfl j ⟨_,q⟩ HX.out
            have ⟨k3,k4⟩:=hB
            have k5:=hB.flat
            simp only at k3 k4 k5
            clear hB hb
            obtain ⟨hv,rfl⟩:=HN hst
            simp only [ValN.num.injEq,ValN.txt.injEq,ValN.lst.injEq,List.cons.injEq,and_true] at hv
            obtain ⟨rfl,rfl,rfl,rfl,rfl,rfl,rfl,rfl,rfl,rfl,rfl⟩:=hv
            clear HS HN hst HR HG
            go_wp2_with (first
             | (with_reducible refine wpList_store_row rfl 39 (.tmp 2) (.tmp 211) rfl w.heap.size zcEntry rfl rfl 39 zcEntry hR (by kernel_rfl) rfl (by simp [Value.oneCell']) ?_; obtain ⟨g6,h6⟩:=setRow_facts zcEntry hR))
            have W6:Wider w _:=g6.wider H4.wider (by intro i m; simp only [List.mem_singleton] at m; omega)
            have hl:=run_loadVar_row (P:=Tryz.prog) _ w.heap.size 39 39 _ (0,0) _ h6 Tryz.underlying39 rfl (by kernel_rfl)
            simp [bodyPost,results,Tryz.results144,asAddr,hl]
            exact ⟨none,0,0,by simp,W6,rfl,World.ownsRow_nil _ _ _ _⟩
        by_cases t2:t = 3
        · as_aux_lemma =>
          subst t2
          have e0:(((3:Nat):Int) == 1) = false:=by decide
          have e1:(((3:Nat):Int) == 2) = false:=by decide
          have e2:(((3:Nat):Int) == 3) = true:=by decide
          have kx:=blk_cell H.second 2 (v:=.string cu2) rfl
          have fx:=blk_free H.second 2
          by_cases z0:q.size ≤ 32
          · have j2:(q.size:Int) ≤ 32:=by omega
            have HS2:Hid (readG csEntry (zeroG csEntry) (m.take (j + 1)) = some [ValN.num cu0,ValN.txt cu1,ValN.txt q,ValN.num cu3,ValN.num cu4,ValN.num cu5,ValN.lst Lu,ValN.num cu7,ValN.num cu8,ValN.num cu9,ValN.num cu10]):=by
             show _ = _
             rw [HS.out]
             exact step_at (show codeAt csEntry 3 = some tK from rfl) (if_pos z0)
            clear HS HN
            have H4:=(H.swap.store 2 (.string q)).swap
            obtain ⟨_,_,eb,hb,_⟩:=atsAt_own (H4).head
            injection eb with eb1 eb2 eb3
            subst eb1
            have hB:=hb.cell a rfl j ⟨_,q⟩ HX.out
            have ⟨k3,k4⟩:=hB
            have k5:=hB.flat
            simp only at k3 k4 k5
            clear hB hb
            go_wp2
            go_roundw
            case rel => exact ⟨j + 1,by omega,by go_num,cu0,cu3,cu4,cu5,cu7,cu8,cu9,cu10,cu1,q,Al,nl,cl,Lu,H4,HG.out.1,HS2.out⟩
            case measure => simp [intOf]; omega
          · have j2:¬ (q.size:Int) ≤ 32:=by omega
            have hst:stepG csEntry [ValN.num cu0,ValN.txt cu1,ValN.txt cu2,ValN.num cu3,ValN.num cu4,ValN.num cu5,ValN.lst Lu,ValN.num cu7,ValN.num cu8,ValN.num cu9,ValN.num cu10] ⟨3,q⟩ = none:=step_bad (show codeAt csEntry 3 = some tK from rfl) (if_neg z0)
            have H4:=H.swap.store 2 (.string q)
            have hR:=H4.drop.drop.head
            obtain ⟨_,_,eb,hb,_⟩:=atsAt_own (H4.swap).head
            injection eb with eb1 eb2 eb3
            subst eb1
            have hB:=hb.cell a rfl j ⟨_,q⟩ HX.out
            have ⟨k3,k4⟩:=hB
            have k5:=hB.flat
            simp only at k3 k4 k5
            clear hB hb
            obtain ⟨hv,rfl⟩:=HN hst
            simp only [ValN.num.injEq,ValN.txt.injEq,ValN.lst.injEq,List.cons.injEq,and_true] at hv
            obtain ⟨rfl,rfl,rfl,rfl,rfl,rfl,rfl,rfl,rfl,rfl,rfl⟩:=hv
            clear HS HN hst HR HG
            go_wp2_with (first
             | (with_reducible refine wpList_store_row rfl 39 (.tmp 2) (.tmp 211) rfl w.heap.size zcEntry rfl rfl 39 zcEntry hR (by kernel_rfl) rfl (by simp [Value.oneCell']) ?_; obtain ⟨g6,h6⟩:=setRow_facts zcEntry hR))
            have W6:Wider w _:=g6.wider H4.wider (by intro i m; simp only [List.mem_singleton] at m; omega)
            have hl:=run_loadVar_row (P:=Tryz.prog) _ w.heap.size 39 39 _ (0,0) _ h6 Tryz.underlying39 rfl (by kernel_rfl)
            simp [bodyPost,results,Tryz.results144,asAddr,hl]
            exact ⟨none,0,0,by simp,W6,rfl,World.ownsRow_nil _ _ _ _⟩
        by_cases t3:t = 4
        · as_aux_lemma =>
          subst t3
          have e0:(((4:Nat):Int) == 1) = false:=by decide
          have e1:(((4:Nat):Int) == 2) = false:=by decide
          have e2:(((4:Nat):Int) == 3) = false:=by decide
          have e3:(((4:Nat):Int) == 4) = true:=by decide
          obtain ⟨y,z,hyz⟩ : ∃ y z,rnumN q.data.toList 2147483647 = (y,z):=⟨_,_,rfl⟩
          by_cases z0:z = 0
          · subst z0
            have hle:=(rnum_inv _ _ _ hyz).1
            have zr:=fun W:World => oread_c q 2147483647 2147483647 rfl W sz (by decide) (b:=true) hyz (by simp)
            have HS2:Hid (readG csEntry (zeroG csEntry) (m.take (j + 1)) = some [ValN.num cu0,ValN.txt cu1,ValN.txt cu2,ValN.num (y:Int),ValN.num cu4,ValN.num cu5,ValN.lst Lu,ValN.num cu7,ValN.num cu8,ValN.num cu9,ValN.num cu10]):=by
             show _ = _
             rw [HS.out]
             exact step_at (show codeAt csEntry 4 = some nI from rfl) (numV_yes hyz)
            have w1:IntKind.i64.wrap (y:Int) = (y:Int):=by simp [IntKind.wrap,IntKind.bits,IntKind.signed]; omega
            clear HS HN hyz
            go_wp2_with (go_at_call 176; ((with_reducible refine (zr _).mono ?_); rintro e w3 ⟨rfl,g3⟩; have H3:=H.quiet g3; have kx:=blk_cell H3.second 3 (v:=.int .i64 cu3) rfl; have fx:=blk_free H3.second 3))
            have H4:=(H3.swap.store 3 (.int .i64 (y:Int))).swap
            go_roundw
            case rel => exact ⟨j + 1,by omega,by go_num,cu0,(y:Int),cu4,cu5,cu7,cu8,cu9,cu10,cu1,cu2,Al,nl,cl,Lu,H4,HG.out.1,HS2.out⟩
            case measure => simp [intOf]; omega
          · obtain ⟨rfl,rfl⟩ : y = 0 ∧ z = 3:=by
             rcases rnum_codes q.data.toList 2147483647 with k | k
             · rw [hyz] at k; exact absurd k z0
             · rw [hyz] at k; injection k with k1 k2; exact ⟨k1,k2⟩
            have zr:=fun W:World => oread_c q 2147483647 2147483647 rfl W sz (by decide) (b:=false) hyz (by simp)
            have hst:stepG csEntry [ValN.num cu0,ValN.txt cu1,ValN.txt cu2,ValN.num cu3,ValN.num cu4,ValN.num cu5,ValN.lst Lu,ValN.num cu7,ValN.num cu8,ValN.num cu9,ValN.num cu10] ⟨4,q⟩ = none:=step_bad (show codeAt csEntry 4 = some nI from rfl) (numV_no hyz)
            obtain ⟨hv,rfl⟩:=HN hst
            simp only [ValN.num.injEq,ValN.txt.injEq,ValN.lst.injEq,List.cons.injEq,and_true] at hv
            obtain ⟨rfl,rfl,rfl,rfl,rfl,rfl,rfl,rfl,rfl,rfl,rfl⟩:=hv
            clear HS HN hst HR HG
            go_wp2_with (first
             | (go_at_call 176; ((with_reducible refine (zr _).mono ?_); rintro e w3 ⟨rfl,g3⟩; have H3:=H.quiet g3; have kx:=blk_cell H3.second 3 (v:=.int .i64 cu3) rfl; have fx:=blk_free H3.second 3; have H4:=H3.swap.store 3 (.int .i64 0); have hR:=H4.drop.drop.head))
             | (with_reducible refine wpList_store_row rfl 39 (.tmp 2) (.tmp 211) rfl w.heap.size zcEntry rfl rfl 39 zcEntry hR (by kernel_rfl) rfl (by simp [Value.oneCell']) ?_; obtain ⟨g6,h6⟩:=setRow_facts zcEntry hR))
            have W6:Wider w _:=g6.wider H4.wider (by intro i m; simp only [List.mem_singleton] at m; omega)
            have hl:=run_loadVar_row (P:=Tryz.prog) _ w.heap.size 39 39 _ (0,0) _ h6 Tryz.underlying39 rfl (by kernel_rfl)
            simp [bodyPost,results,Tryz.results144,asAddr,hl]
            exact ⟨none,0,0,by simp,W6,rfl,World.ownsRow_nil _ _ _ _⟩
        by_cases t4:t = 5
        · as_aux_lemma =>
          subst t4
          have e0:(((5:Nat):Int) == 1) = false:=by decide
          have e1:(((5:Nat):Int) == 2) = false:=by decide
          have e2:(((5:Nat):Int) == 3) = false:=by decide
          have e3:(((5:Nat):Int) == 4) = false:=by decide
          have e4:(((5:Nat):Int) == 5) = true:=by decide
          obtain ⟨y,z,hyz⟩ : ∃ y z,rnumN q.data.toList 2147483647 = (y,z):=⟨_,_,rfl⟩
          by_cases z0:z = 0
          · subst z0
            have hle:=(rnum_inv _ _ _ hyz).1
            have zr:=fun W:World => oread_c q 2147483647 2147483647 rfl W sz (by decide) (b:=true) hyz (by simp)
            have HS2:Hid (readG csEntry (zeroG csEntry) (m.take (j + 1)) = some [ValN.num cu0,ValN.txt cu1,ValN.txt cu2,ValN.num cu3,ValN.num (y:Int),ValN.num cu5,ValN.lst Lu,ValN.num cu7,ValN.num cu8,ValN.num cu9,ValN.num cu10]):=by
             show _ = _
             rw [HS.out]
             exact step_at (show codeAt csEntry 5 = some nI from rfl) (numV_yes hyz)
            have w1:IntKind.i64.wrap (y:Int) = (y:Int):=by simp [IntKind.wrap,IntKind.bits,IntKind.signed]; omega
            clear HS HN hyz
            go_wp2_with (go_at_call 176; ((with_reducible refine (zr _).mono ?_); rintro e w3 ⟨rfl,g3⟩; have H3:=H.quiet g3; have kx:=blk_cell H3.second 4 (v:=.int .i64 cu4) rfl; have fx:=blk_free H3.second 4))
            have H4:=(H3.swap.store 4 (.int .i64 (y:Int))).swap
            go_roundw
            case rel => exact ⟨j + 1,by omega,by go_num,cu0,cu3,(y:Int),cu5,cu7,cu8,cu9,cu10,cu1,cu2,Al,nl,cl,Lu,H4,HG.out.1,HS2.out⟩
            case measure => simp [intOf]; omega
          · obtain ⟨rfl,rfl⟩ : y = 0 ∧ z = 3:=by
             rcases rnum_codes q.data.toList 2147483647 with k | k
             · rw [hyz] at k; exact absurd k z0
             · rw [hyz] at k; injection k with k1 k2; exact ⟨k1,k2⟩
            have zr:=fun W:World => oread_c q 2147483647 2147483647 rfl W sz (by decide) (b:=false) hyz (by simp)
            have hst:stepG csEntry [ValN.num cu0,ValN.txt cu1,ValN.txt cu2,ValN.num cu3,ValN.num cu4,ValN.num cu5,ValN.lst Lu,ValN.num cu7,ValN.num cu8,ValN.num cu9,ValN.num cu10] ⟨5,q⟩ = none:=step_bad (show codeAt csEntry 5 = some nI from rfl) (numV_no hyz)
            obtain ⟨hv,rfl⟩:=HN hst
            simp only [ValN.num.injEq,ValN.txt.injEq,ValN.lst.injEq,List.cons.injEq,and_true] at hv
            obtain ⟨rfl,rfl,rfl,rfl,rfl,rfl,rfl,rfl,rfl,rfl,rfl⟩:=hv
            clear HS HN hst HR HG
            go_wp2_with (first
             | (go_at_call 176; ((with_reducible refine (zr _).mono ?_); rintro e w3 ⟨rfl,g3⟩; have H3:=H.quiet g3; have kx:=blk_cell H3.second 4 (v:=.int .i64 cu4) rfl; have fx:=blk_free H3.second 4; have H4:=H3.swap.store 4 (.int .i64 0); have hR:=H4.drop.drop.head))
             | (with_reducible refine wpList_store_row rfl 39 (.tmp 2) (.tmp 211) rfl w.heap.size zcEntry rfl rfl 39 zcEntry hR (by kernel_rfl) rfl (by simp [Value.oneCell']) ?_; obtain ⟨g6,h6⟩:=setRow_facts zcEntry hR))
            have W6:Wider w _:=g6.wider H4.wider (by intro i m; simp only [List.mem_singleton] at m; omega)
            have hl:=run_loadVar_row (P:=Tryz.prog) _ w.heap.size 39 39 _ (0,0) _ h6 Tryz.underlying39 rfl (by kernel_rfl)
            simp [bodyPost,results,Tryz.results144,asAddr,hl]
            exact ⟨none,0,0,by simp,W6,rfl,World.ownsRow_nil _ _ _ _⟩
        by_cases t5:t = 6
        · as_aux_lemma =>
          subst t5
          have e0:(((6:Nat):Int) == 1) = false:=by decide
          have e1:(((6:Nat):Int) == 2) = false:=by decide
          have e2:(((6:Nat):Int) == 3) = false:=by decide
          have e3:(((6:Nat):Int) == 4) = false:=by decide
          have e4:(((6:Nat):Int) == 5) = false:=by decide
          have e5:(((6:Nat):Int) == 6) = true:=by decide
          obtain ⟨y,z,hyz⟩ : ∃ y z,rnumN q.data.toList 2147483647 = (y,z):=⟨_,_,rfl⟩
          by_cases z0:z = 0
          · subst z0
            have hle:=(rnum_inv _ _ _ hyz).1
            have zr:=fun W:World => oread_c q 2147483647 2147483647 rfl W sz (by decide) (b:=true) hyz (by simp)
            have HS2:Hid (readG csEntry (zeroG csEntry) (m.take (j + 1)) = some [ValN.num cu0,ValN.txt cu1,ValN.txt cu2,ValN.num cu3,ValN.num cu4,ValN.num (y:Int),ValN.lst Lu,ValN.num cu7,ValN.num cu8,ValN.num cu9,ValN.num cu10]):=by
             show _ = _
             rw [HS.out]
             exact step_at (show codeAt csEntry 6 = some nI from rfl) (numV_yes hyz)
            have w1:IntKind.i64.wrap (y:Int) = (y:Int):=by simp [IntKind.wrap,IntKind.bits,IntKind.signed]; omega
            clear HS HN hyz
            go_wp2_with (go_at_call 176; ((with_reducible refine (zr _).mono ?_); rintro e w3 ⟨rfl,g3⟩; have H3:=H.quiet g3; have kx:=blk_cell H3.second 5 (v:=.int .i64 cu5) rfl; have fx:=blk_free H3.second 5))
            have H4:=(H3.swap.store 5 (.int .i64 (y:Int))).swap
            go_roundw
            case rel => exact ⟨j + 1,by omega,by go_num,cu0,cu3,cu4,(y:Int),cu7,cu8,cu9,cu10,cu1,cu2,Al,nl,cl,Lu,H4,HG.out.1,HS2.out⟩
            case measure => simp [intOf]; omega
          · obtain ⟨rfl,rfl⟩ : y = 0 ∧ z = 3:=by
             rcases rnum_codes q.data.toList 2147483647 with k | k
             · rw [hyz] at k; exact absurd k z0
             · rw [hyz] at k; injection k with k1 k2; exact ⟨k1,k2⟩
            have zr:=fun W:World => oread_c q 2147483647 2147483647 rfl W sz (by decide) (b:=false) hyz (by simp)
            have hst:stepG csEntry [ValN.num cu0,ValN.txt cu1,ValN.txt cu2,ValN.num cu3,ValN.num cu4,ValN.num cu5,ValN.lst Lu,ValN.num cu7,ValN.num cu8,ValN.num cu9,ValN.num cu10] ⟨6,q⟩ = none:=step_bad (show codeAt csEntry 6 = some nI from rfl) (numV_no hyz)
            obtain ⟨hv,rfl⟩:=HN hst
            simp only [ValN.num.injEq,ValN.txt.injEq,ValN.lst.injEq,List.cons.injEq,and_true] at hv
            obtain ⟨rfl,rfl,rfl,rfl,rfl,rfl,rfl,rfl,rfl,rfl,rfl⟩:=hv
            clear HS HN hst HR HG
            go_wp2_with (first
             | (go_at_call 176; ((with_reducible refine (zr _).mono ?_); rintro e w3 ⟨rfl,g3⟩; have H3:=H.quiet g3; have kx:=blk_cell H3.second 5 (v:=.int .i64 cu5) rfl; have fx:=blk_free H3.second 5; have H4:=H3.swap.store 5 (.int .i64 0); have hR:=H4.drop.drop.head))
             | (with_reducible refine wpList_store_row rfl 39 (.tmp 2) (.tmp 211) rfl w.heap.size zcEntry rfl rfl 39 zcEntry hR (by kernel_rfl) rfl (by simp [Value.oneCell']) ?_; obtain ⟨g6,h6⟩:=setRow_facts zcEntry hR))
            have W6:Wider w _:=g6.wider H4.wider (by intro i m; simp only [List.mem_singleton] at m; omega)
            have hl:=run_loadVar_row (P:=Tryz.prog) _ w.heap.size 39 39 _ (0,0) _ h6 Tryz.underlying39 rfl (by kernel_rfl)
            simp [bodyPost,results,Tryz.results144,asAddr,hl]
            exact ⟨none,0,0,by simp,W6,rfl,World.ownsRow_nil _ _ _ _⟩
        by_cases t6:t = 7
        · as_aux_lemma =>
          subst t6
          have e0:(((7:Nat):Int) == 1) = false:=by decide
          have e1:(((7:Nat):Int) == 2) = false:=by decide
          have e2:(((7:Nat):Int) == 3) = false:=by decide
          have e3:(((7:Nat):Int) == 4) = false:=by decide
          have e4:(((7:Nat):Int) == 5) = false:=by decide
          have e5:(((7:Nat):Int) == 6) = false:=by decide
          have e6:(((7:Nat):Int) == 7) = true:=by decide
          have hLu:Lu = []:=by
           have q1:=readG_fresh (decA_okA HD.out) HG.out.2 HX.out
           have q2:some (ValN.lst Lu) = some (ValN.lst []):=q1
           injection q2 with q2
           injection q2
          subst hLu
          obtain rfl:0 = nl:=HG.out.1
          obtain ⟨it,z,hyz⟩ : ∃ it z,decT [] 4 q.data.toList = (it,z):=⟨_,_,rfl⟩
          obtain ⟨ni,hni⟩ : ∃ ni,it.length = ni:=⟨_,rfl⟩
          obtain ⟨b0,hb0⟩ : ∃ b:Bool,b = true ↔ z = 0:=⟨decide (z = 0),decide_eq_true_iff⟩
          have zi:=fun W:World => oitems_o q 4 4 rfl W sz (by decide) hyz hni hb0
          have HK0:Hid (([] : List (List Int)).length = 0 ∧ (b0 = true → z = 0 ∧ mapD cArg.dec (it.take 0) = some []) ∧ (b0 = false → stepG csEntry [ValN.num cu0,ValN.txt cu1,ValN.txt cu2,ValN.num cu3,ValN.num cu4,ValN.num cu5,ValN.lst [],ValN.num cu7,ValN.num cu8,ValN.num cu9,ValN.num cu10] ⟨7,q⟩ = none)) :=
           ⟨rfl,fun e => ⟨hb0.1 e,rfl⟩,fun e => step_bad (show codeAt csEntry 7 = some lArgs from rfl) (lstV_bad (hm:=by decide) (hi:=by decide) hyz (fun k => by rw [hb0.2 k] at e; cases e))⟩
          have HI:=Lib.hid hyz
          have HNI:=Lib.hid hni
          clear hyz hni hb0
          go_wp2_with (go_at_call 177; ((with_reducible refine (zi _).mono ?_); rintro e w3 ⟨Aa,ca,rfl,g3,h3⟩; have H3:=(H.row g3 h3).in5))
          clear zi H
          go_loopw [9,12] (fun ok i wr => ∃ k:Nat,k ≤ ni ∧ i = .int .i64 (k:Int) ∧ ∃ (bo:Bool) (Bl:Option Addr) (dl:Nat) (Lk:List (List Int)),ok = .bool bo ∧ Own w wr [rowT 28 1 (.slice Bl k dl) k (cellsK ksArg Lk),blkT (w.heap.size + 1) #[.int .i64 cu0,.string cu1,.string cu2,.int .i64 cu3,.int .i64 cu4,.int .i64 cu5,.slice Bl k dl,.int .i64 cu7,.int .i64 cu8,.int .u64 cu9,.bool (cu10 == 1)] 39,rowT 9 1 (.slice Aa ni ca) ni (cellsS it),rowT 77 2 (.slice (some a) n cp) n (cellsA m),blkT w.heap.size zcEntry 39] ∧ Hid (Lk.length = k ∧ (bo = true → z = 0 ∧ mapD cArg.dec (it.take k) = some Lk) ∧ (bo = false → stepG csEntry [ValN.num cu0,ValN.txt cu1,ValN.txt cu2,ValN.num cu3,ValN.num cu4,ValN.num cu5,ValN.lst [],ValN.num cu7,ValN.num cu8,ValN.num cu9,ValN.num cu10] ⟨7,q⟩ = none))) (fun _ i _ => ni - (intOf i).toNat)
          case atStart => exact ⟨0,by omega,by simp,b0,Al,cl,[],rfl,H3,HK0⟩
          case round =>
           obtain ⟨k,hk,rfl,bo,Bl,dl,Lk,rfl,H,HK⟩:=hrel
           clear H3 HK0
           cases bo with
           | false =>
             have hst:=HK.out.2.2 rfl
             have hR:=H.drop.drop.drop.drop.head
             by_cases ck:k < ni
             · have j2:(k:Int) < (ni:Int):=by omega
               obtain ⟨hv,rfl⟩:=HN hst
               simp only [ValN.num.injEq,ValN.txt.injEq,ValN.lst.injEq,List.cons.injEq,and_true] at hv
               obtain ⟨rfl,rfl,rfl,rfl,rfl,rfl,rfl,rfl,rfl,rfl,rfl⟩:=hv
               clear HS HN hst HR HG
               go_wp2_with (first
                | (with_reducible refine wpList_store_row rfl 39 (.tmp 2) (.tmp 211) rfl w.heap.size zcEntry rfl rfl 39 zcEntry hR (by kernel_rfl) rfl (by simp [Value.oneCell']) ?_; obtain ⟨g6,h6⟩:=setRow_facts zcEntry hR))
               have W6:Wider w _:=g6.wider H.wider (by intro i m; simp only [List.mem_singleton] at m; omega)
               have hl:=run_loadVar_row (P:=Tryz.prog) _ w.heap.size 39 39 _ (0,0) _ h6 Tryz.underlying39 rfl (by kernel_rfl)
               simp [bodyPost,results,Tryz.results144,asAddr,hl]
               exact ⟨none,0,0,by simp,W6,rfl,World.ownsRow_nil _ _ _ _⟩
             · have j2:¬ (k:Int) < (ni:Int):=by omega
               obtain ⟨hv,rfl⟩:=HN hst
               simp only [ValN.num.injEq,ValN.txt.injEq,ValN.lst.injEq,List.cons.injEq,and_true] at hv
               obtain ⟨rfl,rfl,rfl,rfl,rfl,rfl,rfl,rfl,rfl,rfl,rfl⟩:=hv
               clear HS HN hst HR HG
               go_wp2_with (first
                | (with_reducible refine wpList_store_row rfl 39 (.tmp 2) (.tmp 211) rfl w.heap.size zcEntry rfl rfl 39 zcEntry hR (by kernel_rfl) rfl (by simp [Value.oneCell']) ?_; obtain ⟨g6,h6⟩:=setRow_facts zcEntry hR))
               have W6:Wider w _:=g6.wider H.wider (by intro i m; simp only [List.mem_singleton] at m; omega)
               have hl:=run_loadVar_row (P:=Tryz.prog) _ w.heap.size 39 39 _ (0,0) _ h6 Tryz.underlying39 rfl (by kernel_rfl)
               simp [bodyPost,results,Tryz.results144,asAddr,hl]
               exact ⟨none,0,0,by simp,W6,rfl,World.ownsRow_nil _ _ _ _⟩
           | true =>
             obtain ⟨hz0,hmd⟩:=HK.out.2.1 rfl
             subst hz0
             by_cases ck:k < ni
             · have j2:(0:Int) ≤ (k:Int):=by omega
               have j3:(k:Int) < (ni:Int):=by omega
               obtain ⟨x2,hx2⟩:=next_some it k (by rw [HNI.out]; exact ck)
               have hl2:=H.drop.drop.strs
               cases Aa with
               | none => exact absurd (hl2.none_ rfl) (by intro e; rw [e] at hx2; simp at hx2)
               | some a2 =>
                 have cq:=hl2.cell a2 rfl k x2 hx2
                 have sz2:x2.size < 1000000:=item_small HI.out sz hx2
                 have hmo:ni ≤ 4:=by have q:=decT_most HI.out; rw [HNI.out] at q; exact q
                 have X1:Hid (k + 1 ≤ maxLen):=by show _ ≤ maxLen; unfold maxLen; omega
                 have X2:Hid ((k + 1) * 8 ≤ 140737488355328):=by show _ ≤ _; omega
                 obtain ⟨y,r1,hdec⟩ : ∃ y r1,rnumN x2.data.toList 18446744073709551615 = (y,r1):=⟨_,_,rfl⟩
                 obtain ⟨b1,hb1⟩ : ∃ b:Bool,b = true ↔ r1 = 0:=⟨decide (r1 = 0),decide_eq_true_iff⟩
                 have hcodes:=rnum_codes x2.data.toList 18446744073709551615
                 rw [hdec] at hcodes
                 have hle:y ≤ 18446744073709551615:=by
                  rcases hcodes with q1 | q1
                  · have q1:r1 = 0:=q1
                    subst q1; exact (rnum_inv _ _ _ hdec).1
                  · injection q1 with q1; omega
                 have w1:IntKind.u64.wrap (y:Int) = (y:Int):=by simp [IntKind.wrap,IntKind.bits,IntKind.signed]; omega
                 have zy:=fun W:World => oread_c x2 18446744073709551615 18446744073709551615 rfl W sz2 (by decide) hdec hb1
                 have HK2:Hid ((Lk ++ [[(y:Int)]]).length = k + 1 ∧ (b1 = true → 0 = 0 ∧ mapD cArg.dec (it.take (k + 1)) = some (Lk ++ [[(y:Int)]])) ∧ (b1 = false → stepG csEntry [ValN.num cu0,ValN.txt cu1,ValN.txt cu2,ValN.num cu3,ValN.num cu4,ValN.num cu5,ValN.lst [],ValN.num cu7,ValN.num cu8,ValN.num cu9,ValN.num cu10] ⟨7,q⟩ = none)) :=
                  ⟨by rw [List.length_append,HK.out.1]; rfl,fun e => ⟨rfl,mapD_some_snoc hmd hx2 (show cArg.dec x2 = some [(y:Int)] from by show ((numC 18446744073709551615 _).dec x2).map (fun n => [n]) = _; rw [numC_yes (by rw [hdec,hb1.1 e])]; rfl)⟩,fun e => step_bad (show codeAt csEntry 7 = some lArgs from rfl) (lstV_no (hm:=by decide) (hi:=by decide) HI.out (mapD_none_snoc hmd hx2 (show cArg.dec x2 = none from by show ((numC 18446744073709551615 _).dec x2).map (fun n => [n]) = _; rw [numC_no (y:=y) (by rcases hcodes with q1 | q1; exact absurd (hb1.2 q1) (by rw [e]; decide); injection q1 with q1 q2; rw [hdec,q2])]; rfl)))⟩
                 have SN:Hid (cellsK ksArg Lk ++ #[.int .u64 (y:Int)].toList = cellsK ksArg (Lk ++ [[(y:Int)]])):=(cellsK_snoc ksArg Lk [(y:Int)]).symm
                 clear hx2 hdec hb1 hmd HK hcodes
                 go_wp2_with (first
                  | (go_at_call 176; ((with_reducible refine (zy _).mono ?_); rintro e wB ⟨rfl,g3⟩; have H5:=H.quiet g3; have kx:=blk_cell H5.second 6 (v:=.slice Bl k dl) rfl; have H6:=Lib.hid (H5.quiet ((Wider.refl wB).alloc (.cells #[.int .u64 (y:Int)] 28))); have SIDE:=Lib.hid (liesL wB #[.int .u64 (y:Int)] 28 (by simp [Value.oneCell'])); clear H5))
                  | (at_builtin; refine wpList_append_thing rfl (.tmp 149) (.tmp 151) 29 rfl 28 i0 (.int .u64 0) 1 8 Tryz.underlying29 hi0 hp0 hq0 hr0 rfl (by decide) (.slice Bl k dl) k (cellsK ksArg Lk) rfl H6.out (some ⟨wB.heap.size,0,none⟩) 1 1 #[.int .u64 (y:Int)].toList rfl rfl (fun e => by cases e) (fun a e => by cases e; exact SIDE.out.1) SIDE.out.2 X1.out X2.out rfl SN.out ?_; intro B3 c3 w6 H7; have H8:=H7.swap; have kx:=blk_cell H8.head 6 (v:=.slice Bl k dl) rfl; have fx:=blk_free H8.head 6))
                 have H9:=(H8.store 6 (.slice B3 (k + 1) c3)).swap
                 go_roundw
                 case rel => exact ⟨k + 1,by omega,by go_num,b1,B3,c3,Lk ++ [[(y:Int)]],rfl,H9,HK2⟩
                 case measure => simp [intOf]; omega
             · obtain rfl:k = ni:=by omega
               have j2:¬ (k:Int) < (k:Int):=by omega
               rw [List.take_of_length_le (by rw [HNI.out]; exact Nat.le_refl _)] at hmd
               have HS2:Hid (readG csEntry (zeroG csEntry) (m.take (j + 1)) = some [ValN.num cu0,ValN.txt cu1,ValN.txt cu2,ValN.num cu3,ValN.num cu4,ValN.num cu5,ValN.lst Lk,ValN.num cu7,ValN.num cu8,ValN.num cu9,ValN.num cu10]):=by
                show _ = _
                rw [HS.out]
                exact step_at (show codeAt csEntry 7 = some lArgs from rfl) (lstV_yes (hm:=by decide) (hi:=by decide) HI.out hmd)
               have H4:=H.out5.drop
               have HL:=HK.out.1
               clear HS HN hmd HK H
               go_wp2
               go_roundw
               case rel => exact ⟨j + 1,by omega,by go_num,cu0,cu3,cu4,cu5,cu7,cu8,cu9,cu10,cu1,cu2,Bl,_,dl,Lk,H4,HL,HS2.out⟩
               case measure => simp [intOf]; omega
        by_cases t7:t = 8
        · as_aux_lemma =>
          subst t7
          have e0:(((8:Nat):Int) == 1) = false:=by decide
          have e1:(((8:Nat):Int) == 2) = false:=by decide
          have e2:(((8:Nat):Int) == 3) = false:=by decide
          have e3:(((8:Nat):Int) == 4) = false:=by decide
          have e4:(((8:Nat):Int) == 5) = false:=by decide
          have e5:(((8:Nat):Int) == 6) = false:=by decide
          have e6:(((8:Nat):Int) == 7) = false:=by decide
          have e7:(((8:Nat):Int) == 8) = true:=by decide
          obtain ⟨y,z,hyz⟩ : ∃ y z,rnumN q.data.toList 9223372036854775807 = (y,z):=⟨_,_,rfl⟩
          by_cases z0:z = 0
          · subst z0
            have hle:=(rnum_inv _ _ _ hyz).1
            have zr:=fun W:World => oread_c q 9223372036854775807 9223372036854775807 rfl W sz (by decide) (b:=true) hyz (by simp)
            have HS2:Hid (readG csEntry (zeroG csEntry) (m.take (j + 1)) = some [ValN.num cu0,ValN.txt cu1,ValN.txt cu2,ValN.num cu3,ValN.num cu4,ValN.num cu5,ValN.lst Lu,ValN.num (y:Int),ValN.num cu8,ValN.num cu9,ValN.num cu10]):=by
             show _ = _
             rw [HS.out]
             exact step_at (show codeAt csEntry 8 = some nL from rfl) (numV_yes hyz)
            have w1:IntKind.i64.wrap (y:Int) = (y:Int):=by simp [IntKind.wrap,IntKind.bits,IntKind.signed]; omega
            clear HS HN hyz
            go_wp2_with (go_at_call 176; ((with_reducible refine (zr _).mono ?_); rintro e w3 ⟨rfl,g3⟩; have H3:=H.quiet g3; have kx:=blk_cell H3.second 7 (v:=.int .i64 cu7) rfl; have fx:=blk_free H3.second 7))
            have H4:=(H3.swap.store 7 (.int .i64 (y:Int))).swap
            go_roundw
            case rel => exact ⟨j + 1,by omega,by go_num,cu0,cu3,cu4,cu5,(y:Int),cu8,cu9,cu10,cu1,cu2,Al,nl,cl,Lu,H4,HG.out.1,HS2.out⟩
            case measure => simp [intOf]; omega
          · obtain ⟨rfl,rfl⟩ : y = 0 ∧ z = 3:=by
             rcases rnum_codes q.data.toList 9223372036854775807 with k | k
             · rw [hyz] at k; exact absurd k z0
             · rw [hyz] at k; injection k with k1 k2; exact ⟨k1,k2⟩
            have zr:=fun W:World => oread_c q 9223372036854775807 9223372036854775807 rfl W sz (by decide) (b:=false) hyz (by simp)
            have hst:stepG csEntry [ValN.num cu0,ValN.txt cu1,ValN.txt cu2,ValN.num cu3,ValN.num cu4,ValN.num cu5,ValN.lst Lu,ValN.num cu7,ValN.num cu8,ValN.num cu9,ValN.num cu10] ⟨8,q⟩ = none:=step_bad (show codeAt csEntry 8 = some nL from rfl) (numV_no hyz)
            obtain ⟨hv,rfl⟩:=HN hst
            simp only [ValN.num.injEq,ValN.txt.injEq,ValN.lst.injEq,List.cons.injEq,and_true] at hv
            obtain ⟨rfl,rfl,rfl,rfl,rfl,rfl,rfl,rfl,rfl,rfl,rfl⟩:=hv
            clear HS HN hst HR HG
            go_wp2_with (first
             | (go_at_call 176; ((with_reducible refine (zr _).mono ?_); rintro e w3 ⟨rfl,g3⟩; have H3:=H.quiet g3; have kx:=blk_cell H3.second 7 (v:=.int .i64 cu7) rfl; have fx:=blk_free H3.second 7; have H4:=H3.swap.store 7 (.int .i64 0); have hR:=H4.drop.drop.head))
             | (with_reducible refine wpList_store_row rfl 39 (.tmp 2) (.tmp 211) rfl w.heap.size zcEntry rfl rfl 39 zcEntry hR (by kernel_rfl) rfl (by simp [Value.oneCell']) ?_; obtain ⟨g6,h6⟩:=setRow_facts zcEntry hR))
            have W6:Wider w _:=g6.wider H4.wider (by intro i m; simp only [List.mem_singleton] at m; omega)
            have hl:=run_loadVar_row (P:=Tryz.prog) _ w.heap.size 39 39 _ (0,0) _ h6 Tryz.underlying39 rfl (by kernel_rfl)
            simp [bodyPost,results,Tryz.results144,asAddr,hl]
            exact ⟨none,0,0,by simp,W6,rfl,World.ownsRow_nil _ _ _ _⟩
        by_cases t8:t = 9
        · as_aux_lemma =>
          subst t8
          have e0:(((9:Nat):Int) == 1) = false:=by decide
          have e1:(((9:Nat):Int) == 2) = false:=by decide
          have e2:(((9:Nat):Int) == 3) = false:=by decide
          have e3:(((9:Nat):Int) == 4) = false:=by decide
          have e4:(((9:Nat):Int) == 5) = false:=by decide
          have e5:(((9:Nat):Int) == 6) = false:=by decide
          have e6:(((9:Nat):Int) == 7) = false:=by decide
          have e7:(((9:Nat):Int) == 8) = false:=by decide
          have e8:(((9:Nat):Int) == 9) = true:=by decide
          obtain ⟨y,z,hyz⟩ : ∃ y z,rnumN q.data.toList 9223372036854775807 = (y,z):=⟨_,_,rfl⟩
          by_cases z0:z = 0
          · subst z0
            have hle:=(rnum_inv _ _ _ hyz).1
            have zr:=fun W:World => oread_c q 9223372036854775807 9223372036854775807 rfl W sz (by decide) (b:=true) hyz (by simp)
            have HS2:Hid (readG csEntry (zeroG csEntry) (m.take (j + 1)) = some [ValN.num cu0,ValN.txt cu1,ValN.txt cu2,ValN.num cu3,ValN.num cu4,ValN.num cu5,ValN.lst Lu,ValN.num cu7,ValN.num (y:Int),ValN.num cu9,ValN.num cu10]):=by
             show _ = _
             rw [HS.out]
             exact step_at (show codeAt csEntry 9 = some nL from rfl) (numV_yes hyz)
            have w1:IntKind.i64.wrap (y:Int) = (y:Int):=by simp [IntKind.wrap,IntKind.bits,IntKind.signed]; omega
            clear HS HN hyz
            go_wp2_with (go_at_call 176; ((with_reducible refine (zr _).mono ?_); rintro e w3 ⟨rfl,g3⟩; have H3:=H.quiet g3; have kx:=blk_cell H3.second 8 (v:=.int .i64 cu8) rfl; have fx:=blk_free H3.second 8))
            have H4:=(H3.swap.store 8 (.int .i64 (y:Int))).swap
            go_roundw
            case rel => exact ⟨j + 1,by omega,by go_num,cu0,cu3,cu4,cu5,cu7,(y:Int),cu9,cu10,cu1,cu2,Al,nl,cl,Lu,H4,HG.out.1,HS2.out⟩
            case measure => simp [intOf]; omega
          · obtain ⟨rfl,rfl⟩ : y = 0 ∧ z = 3:=by
             rcases rnum_codes q.data.toList 9223372036854775807 with k | k
             · rw [hyz] at k; exact absurd k z0
             · rw [hyz] at k; injection k with k1 k2; exact ⟨k1,k2⟩
            have zr:=fun W:World => oread_c q 9223372036854775807 9223372036854775807 rfl W sz (by decide) (b:=false) hyz (by simp)
            have hst:stepG csEntry [ValN.num cu0,ValN.txt cu1,ValN.txt cu2,ValN.num cu3,ValN.num cu4,ValN.num cu5,ValN.lst Lu,ValN.num cu7,ValN.num cu8,ValN.num cu9,ValN.num cu10] ⟨9,q⟩ = none:=step_bad (show codeAt csEntry 9 = some nL from rfl) (numV_no hyz)
            obtain ⟨hv,rfl⟩:=HN hst
            simp only [ValN.num.injEq,ValN.txt.injEq,ValN.lst.injEq,List.cons.injEq,and_true] at hv
            obtain ⟨rfl,rfl,rfl,rfl,rfl,rfl,rfl,rfl,rfl,rfl,rfl⟩:=hv
            clear HS HN hst HR HG
            go_wp2_with (first
             | (go_at_call 176; ((with_reducible refine (zr _).mono ?_); rintro e w3 ⟨rfl,g3⟩; have H3:=H.quiet g3; have kx:=blk_cell H3.second 8 (v:=.int .i64 cu8) rfl; have fx:=blk_free H3.second 8; have H4:=H3.swap.store 8 (.int .i64 0); have hR:=H4.drop.drop.head))
             | (with_reducible refine wpList_store_row rfl 39 (.tmp 2) (.tmp 211) rfl w.heap.size zcEntry rfl rfl 39 zcEntry hR (by kernel_rfl) rfl (by simp [Value.oneCell']) ?_; obtain ⟨g6,h6⟩:=setRow_facts zcEntry hR))
            have W6:Wider w _:=g6.wider H4.wider (by intro i m; simp only [List.mem_singleton] at m; omega)
            have hl:=run_loadVar_row (P:=Tryz.prog) _ w.heap.size 39 39 _ (0,0) _ h6 Tryz.underlying39 rfl (by kernel_rfl)
            simp [bodyPost,results,Tryz.results144,asAddr,hl]
            exact ⟨none,0,0,by simp,W6,rfl,World.ownsRow_nil _ _ _ _⟩
        by_cases t9:t = 10
        · as_aux_lemma =>
          subst t9
          have e0:(((10:Nat):Int) == 1) = false:=by decide
          have e1:(((10:Nat):Int) == 2) = false:=by decide
          have e2:(((10:Nat):Int) == 3) = false:=by decide
          have e3:(((10:Nat):Int) == 4) = false:=by decide
          have e4:(((10:Nat):Int) == 5) = false:=by decide
          have e5:(((10:Nat):Int) == 6) = false:=by decide
          have e6:(((10:Nat):Int) == 7) = false:=by decide
          have e7:(((10:Nat):Int) == 8) = false:=by decide
          have e8:(((10:Nat):Int) == 9) = false:=by decide
          have e9:(((10:Nat):Int) == 10) = true:=by decide
          obtain ⟨y,z,hyz⟩ : ∃ y z,rnumN q.data.toList 18446744073709551615 = (y,z):=⟨_,_,rfl⟩
          by_cases z0:z = 0
          · subst z0
            have hle:=(rnum_inv _ _ _ hyz).1
            have zr:=fun W:World => oread_c q 18446744073709551615 18446744073709551615 rfl W sz (by decide) (b:=true) hyz (by simp)
            have HS2:Hid (readG csEntry (zeroG csEntry) (m.take (j + 1)) = some [ValN.num cu0,ValN.txt cu1,ValN.txt cu2,ValN.num cu3,ValN.num cu4,ValN.num cu5,ValN.lst Lu,ValN.num cu7,ValN.num cu8,ValN.num (y:Int),ValN.num cu10]):=by
             show _ = _
             rw [HS.out]
             exact step_at (show codeAt csEntry 10 = some nU from rfl) (numV_yes hyz)
            have w1:IntKind.u64.wrap (y:Int) = (y:Int):=by simp [IntKind.wrap,IntKind.bits,IntKind.signed]; omega
            clear HS HN hyz
            go_wp2_with (go_at_call 176; ((with_reducible refine (zr _).mono ?_); rintro e w3 ⟨rfl,g3⟩; have H3:=H.quiet g3; have kx:=blk_cell H3.second 9 (v:=.int .u64 cu9) rfl; have fx:=blk_free H3.second 9))
            have H4:=(H3.swap.store 9 (.int .u64 (y:Int))).swap
            go_roundw
            case rel => exact ⟨j + 1,by omega,by go_num,cu0,cu3,cu4,cu5,cu7,cu8,(y:Int),cu10,cu1,cu2,Al,nl,cl,Lu,H4,HG.out.1,HS2.out⟩
            case measure => simp [intOf]; omega
          · obtain ⟨rfl,rfl⟩ : y = 0 ∧ z = 3:=by
             rcases rnum_codes q.data.toList 18446744073709551615 with k | k
             · rw [hyz] at k; exact absurd k z0
             · rw [hyz] at k; injection k with k1 k2; exact ⟨k1,k2⟩
            have zr:=fun W:World => oread_c q 18446744073709551615 18446744073709551615 rfl W sz (by decide) (b:=false) hyz (by simp)
            have hst:stepG csEntry [ValN.num cu0,ValN.txt cu1,ValN.txt cu2,ValN.num cu3,ValN.num cu4,ValN.num cu5,ValN.lst Lu,ValN.num cu7,ValN.num cu8,ValN.num cu9,ValN.num cu10] ⟨10,q⟩ = none:=step_bad (show codeAt csEntry 10 = some nU from rfl) (numV_no hyz)
            obtain ⟨hv,rfl⟩:=HN hst
            simp only [ValN.num.injEq,ValN.txt.injEq,ValN.lst.injEq,List.cons.injEq,and_true] at hv
            obtain ⟨rfl,rfl,rfl,rfl,rfl,rfl,rfl,rfl,rfl,rfl,rfl⟩:=hv
            clear HS HN hst HR HG
            go_wp2_with (first
             | (go_at_call 176; ((with_reducible refine (zr _).mono ?_); rintro e w3 ⟨rfl,g3⟩; have H3:=H.quiet g3; have kx:=blk_cell H3.second 9 (v:=.int .u64 cu9) rfl; have fx:=blk_free H3.second 9; have H4:=H3.swap.store 9 (.int .u64 0); have hR:=H4.drop.drop.head))
             | (with_reducible refine wpList_store_row rfl 39 (.tmp 2) (.tmp 211) rfl w.heap.size zcEntry rfl rfl 39 zcEntry hR (by kernel_rfl) rfl (by simp [Value.oneCell']) ?_; obtain ⟨g6,h6⟩:=setRow_facts zcEntry hR))
            have W6:Wider w _:=g6.wider H4.wider (by intro i m; simp only [List.mem_singleton] at m; omega)
            have hl:=run_loadVar_row (P:=Tryz.prog) _ w.heap.size 39 39 _ (0,0) _ h6 Tryz.underlying39 rfl (by kernel_rfl)
            simp [bodyPost,results,Tryz.results144,asAddr,hl]
            exact ⟨none,0,0,by simp,W6,rfl,World.ownsRow_nil _ _ _ _⟩
        by_cases t10:t = 11
        · as_aux_lemma =>
          subst t10
          have e0:(((11:Nat):Int) == 1) = false:=by decide
          have e1:(((11:Nat):Int) == 2) = false:=by decide
          have e2:(((11:Nat):Int) == 3) = false:=by decide
          have e3:(((11:Nat):Int) == 4) = false:=by decide
          have e4:(((11:Nat):Int) == 5) = false:=by decide
          have e5:(((11:Nat):Int) == 6) = false:=by decide
          have e6:(((11:Nat):Int) == 7) = false:=by decide
          have e7:(((11:Nat):Int) == 8) = false:=by decide
          have e8:(((11:Nat):Int) == 9) = false:=by decide
          have e9:(((11:Nat):Int) == 10) = false:=by decide
          have e10:(((11:Nat):Int) == 11) = true:=by decide
          obtain ⟨y,z,hyz⟩ : ∃ y z,rnumN q.data.toList 1 = (y,z):=⟨_,_,rfl⟩
          by_cases z0:z = 0
          · subst z0
            have hle:=(rnum_inv _ _ _ hyz).1
            have zr:=fun W:World => oread_c q 1 1 rfl W sz (by decide) (b:=true) hyz (by simp)
            have HS2:Hid (readG csEntry (zeroG csEntry) (m.take (j + 1)) = some [ValN.num cu0,ValN.txt cu1,ValN.txt cu2,ValN.num cu3,ValN.num cu4,ValN.num cu5,ValN.lst Lu,ValN.num cu7,ValN.num cu8,ValN.num cu9,ValN.num (y:Int)]):=by
             show _ = _
             rw [HS.out]
             exact step_at (show codeAt csEntry 11 = some nT from rfl) (numV_yes hyz)
            clear HS HN hyz
            go_wp2_with (go_at_call 176; ((with_reducible refine (zr _).mono ?_); rintro e w3 ⟨rfl,g3⟩; have H3:=H.quiet g3; have kx:=blk_cell H3.second 10 (v:=.bool (cu10 == 1)) rfl; have fx:=blk_free H3.second 10))
            have H4:=(H3.swap.store 10 (.bool ((y:Int) == 1))).swap
            go_roundw
            case rel => exact ⟨j + 1,by omega,by go_num,cu0,cu3,cu4,cu5,cu7,cu8,cu9,(y:Int),cu1,cu2,Al,nl,cl,Lu,H4,HG.out.1,HS2.out⟩
            case measure => simp [intOf]; omega
          · obtain ⟨rfl,rfl⟩ : y = 0 ∧ z = 3:=by
             rcases rnum_codes q.data.toList 1 with k | k
             · rw [hyz] at k; exact absurd k z0
             · rw [hyz] at k; injection k with k1 k2; exact ⟨k1,k2⟩
            have zr:=fun W:World => oread_c q 1 1 rfl W sz (by decide) (b:=false) hyz (by simp)
            have hst:stepG csEntry [ValN.num cu0,ValN.txt cu1,ValN.txt cu2,ValN.num cu3,ValN.num cu4,ValN.num cu5,ValN.lst Lu,ValN.num cu7,ValN.num cu8,ValN.num cu9,ValN.num cu10] ⟨11,q⟩ = none:=step_bad (show codeAt csEntry 11 = some nT from rfl) (numV_no hyz)
            obtain ⟨hv,rfl⟩:=HN hst
            simp only [ValN.num.injEq,ValN.txt.injEq,ValN.lst.injEq,List.cons.injEq,and_true] at hv
            obtain ⟨rfl,rfl,rfl,rfl,rfl,rfl,rfl,rfl,rfl,rfl,rfl⟩:=hv
            clear HS HN hst HR HG
            go_wp2_with (first
             | (go_at_call 176; ((with_reducible refine (zr _).mono ?_); rintro e w3 ⟨rfl,g3⟩; have H3:=H.quiet g3; have kx:=blk_cell H3.second 10 (v:=.bool (cu10 == 1)) rfl; have fx:=blk_free H3.second 10; have H4:=H3.swap.store 10 (.bool false); have hR:=H4.drop.drop.head))
             | (with_reducible refine wpList_store_row rfl 39 (.tmp 2) (.tmp 211) rfl w.heap.size zcEntry rfl rfl 39 zcEntry hR (by kernel_rfl) rfl (by simp [Value.oneCell']) ?_; obtain ⟨g6,h6⟩:=setRow_facts zcEntry hR))
            have W6:Wider w _:=g6.wider H4.wider (by intro i m; simp only [List.mem_singleton] at m; omega)
            have hl:=run_loadVar_row (P:=Tryz.prog) _ w.heap.size 39 39 _ (0,0) _ h6 Tryz.underlying39 rfl (by kernel_rfl)
            simp [bodyPost,results,Tryz.results144,asAddr,hl]
            exact ⟨none,0,0,by simp,W6,rfl,World.ownsRow_nil _ _ _ _⟩
        have e0:((t:Int) == 1) = false:=by rw [beq_eq_false_iff_ne]; omega
        have e1:((t:Int) == 2) = false:=by rw [beq_eq_false_iff_ne]; omega
        have e2:((t:Int) == 3) = false:=by rw [beq_eq_false_iff_ne]; omega
        have e3:((t:Int) == 4) = false:=by rw [beq_eq_false_iff_ne]; omega
        have e4:((t:Int) == 5) = false:=by rw [beq_eq_false_iff_ne]; omega
        have e5:((t:Int) == 6) = false:=by rw [beq_eq_false_iff_ne]; omega
        have e6:((t:Int) == 7) = false:=by rw [beq_eq_false_iff_ne]; omega
        have e7:((t:Int) == 8) = false:=by rw [beq_eq_false_iff_ne]; omega
        have e8:((t:Int) == 9) = false:=by rw [beq_eq_false_iff_ne]; omega
        have e9:((t:Int) == 10) = false:=by rw [beq_eq_false_iff_ne]; omega
        have e10:((t:Int) == 11) = false:=by rw [beq_eq_false_iff_ne]; omega
        have hst:stepG csEntry [ValN.num cu0,ValN.txt cu1,ValN.txt cu2,ValN.num cu3,ValN.num cu4,ValN.num cu5,ValN.lst Lu,ValN.num cu7,ValN.num cu8,ValN.num cu9,ValN.num cu10] ⟨t,q⟩ = none:=step_none (by show ¬ (1 ≤ t ∧ t ≤ 11); omega)
        have hR:=H.drop.drop.head
        obtain ⟨hv,rfl⟩:=HN hst
        simp only [ValN.num.injEq,ValN.txt.injEq,ValN.lst.injEq,List.cons.injEq,and_true] at hv
        obtain ⟨rfl,rfl,rfl,rfl,rfl,rfl,rfl,rfl,rfl,rfl,rfl⟩:=hv
        clear HS HN hst HR HG
        go_wp2_with (first
         | (with_reducible refine wpList_store_row rfl 39 (.tmp 2) (.tmp 211) rfl w.heap.size zcEntry rfl rfl 39 zcEntry hR (by kernel_rfl) rfl (by simp [Value.oneCell']) ?_; obtain ⟨g6,h6⟩:=setRow_facts zcEntry hR))
        have W6:Wider w _:=g6.wider H.wider (by intro i m; simp only [List.mem_singleton] at m; omega)
        have hl:=run_loadVar_row (P:=Tryz.prog) _ w.heap.size 39 39 _ (0,0) _ h6 Tryz.underlying39 rfl (by kernel_rfl)
        simp [bodyPost,results,Tryz.results144,asAddr,hl]
        exact ⟨none,0,0,by simp,W6,rfl,World.ownsRow_nil _ _ _ _⟩
    · obtain rfl:j = n:=by omega
      have j2:¬ (j:Int) < (j:Int):=by omega
      have q:=HR.out
      have q2:=HG.out.2
      rw [List.take_of_length_le (by rw [HM.out]; exact Nat.le_refl _)] at q2
      rw [decG_some HD.out q2] at q
      injection q with q3 q4
      subst q4
      simp only [ValN.num.injEq,ValN.txt.injEq,ValN.lst.injEq,List.cons.injEq,and_true] at q3
      obtain ⟨rfl,rfl,rfl,rfl,rfl,rfl,rfl,rfl,rfl,rfl,rfl⟩:=q3
      have HL:=HG.out.1
      have hX:=H.second
      have hR:=H.drop.drop.head
      clear q2 HG HR
      go_wp2_with (first
       | (with_reducible refine wpList_load_row rfl 39 (.tmp 4) rfl (w.heap.size + 1) rfl 39 #[.int .i64 cu0,.string cu1,.string cu2,.int .i64 cu3,.int .i64 cu4,.int .i64 cu5,.slice Al nl cl,.int .i64 cu7,.int .i64 cu8,.int .u64 cu9,.bool (cu10 == 1)] (0,0) _ hX Tryz.underlying39 rfl (by kernel_rfl) ?_)
       | (with_reducible refine wpList_store_row rfl 39 (.tmp 2) (.tmp 212) rfl w.heap.size #[.int .i64 cu0,.string cu1,.string cu2,.int .i64 cu3,.int .i64 cu4,.int .i64 cu5,.slice Al nl cl,.int .i64 cu7,.int .i64 cu8,.int .u64 cu9,.bool (cu10 == 1)] rfl rfl 39 zcEntry hR (by kernel_rfl) rfl (by simp [Value.oneCell']) ?_; obtain ⟨g6,h6⟩:=setRow_facts #[.int .i64 cu0,.string cu1,.string cu2,.int .i64 cu3,.int .i64 cu4,.int .i64 cu5,.slice Al nl cl,.int .i64 cu7,.int .i64 cu8,.int .u64 cu9,.bool (cu10 == 1)] hR))
      have HT:=H.third.turn (s:=blkT w.heap.size #[.int .i64 cu0,.string cu1,.string cu2,.int .i64 cu3,.int .i64 cu4,.int .i64 cu5,.slice Al nl cl,.int .i64 cu7,.int .i64 cu8,.int .u64 cu9,.bool (cu10 == 1)] 39) g6 h6 (blk_stable _ _ _) (fun i m => ⟨.inl m,by simp only [List.mem_singleton] at m; subst m; exact (Array.getElem?_eq_some_iff.1 h6).1⟩)
      have W6:Wider w _:=g6.wider H.wider (by intro i m; simp only [List.mem_singleton] at m; omega)
      have hl:=run_loadVar_row (P:=Tryz.prog) _ w.heap.size 39 39 _ (0,0) _ h6 Tryz.underlying39 rfl (by kernel_rfl)
      simp [bodyPost,results,Tryz.results144,asAddr,hl]
      exact ⟨Al,nl,cl,by simp,W6,(by first | exact HL | rfl),own_base HT.drop.drop.drop⟩
 · have q:=HR.out
   rw [decG_err HD.out c0] at q
   injection q with q1 q2
   subst q2
   have q3:[ValN.num v0,ValN.txt v1,ValN.txt v2,ValN.num v3,ValN.num v4,ValN.num v5,ValN.lst L,ValN.num v7,ValN.num v8,ValN.num v9,ValN.num v10] = [ValN.num 0,ValN.txt ⟨#[]⟩,ValN.txt ⟨#[]⟩,ValN.num 0,ValN.num 0,ValN.num 0,ValN.lst [],ValN.num 0,ValN.num 0,ValN.num 0,ValN.num 0]:=q1.symm
   simp only [ValN.num.injEq,ValN.txt.injEq,ValN.lst.injEq,List.cons.injEq,and_true] at q3
   obtain ⟨rfl,rfl,rfl,rfl,rfl,rfl,rfl,rfl,rfl,rfl,rfl⟩:=q3
   have d0:((c:Int) != 0) = true:=by rw [bne_iff_ne]; omega
   clear HR q1
   go_enter Tryz.func144,Tryz.ntmps144
   go_wp2_with (first
    | (go_at_call 31; ((with_reducible refine (zd _).mono ?_); rintro e w2 ⟨A,cp,rfl,g2,h2⟩; have H1:=H0.quiet g2; have hX:=H1.head; have hR:=H1.second))
    | (with_reducible refine wpList_load_row rfl 39 (.tmp 4) rfl (w.heap.size + 1) rfl 39 zcEntry (0,0) _ hX Tryz.underlying39 rfl (by kernel_rfl) ?_)
    | (with_reducible refine wpList_store_row rfl 39 (.tmp 2) (.tmp 20) rfl w.heap.size zcEntry rfl rfl 39 zcEntry hR (by kernel_rfl) rfl (by simp [Value.oneCell']) ?_; obtain ⟨g6,h6⟩:=setRow_facts zcEntry hR))
   have W6:Wider w _:=g6.wider H1.wider (by intro i m; simp only [List.mem_singleton] at m; omega)
   have hl:=run_loadVar_row (P:=Tryz.prog) _ w.heap.size 39 39 _ (0,0) _ h6 Tryz.underlying39 rfl (by kernel_rfl)
   simp [bodyPost,results,Tryz.results144,asAddr,hl]
   exact ⟨none,0,0,by simp,W6,rfl,World.ownsRow_nil _ _ _ _⟩
end Go.Proofs.YtoopdhgmdjienaaGreatDoor
