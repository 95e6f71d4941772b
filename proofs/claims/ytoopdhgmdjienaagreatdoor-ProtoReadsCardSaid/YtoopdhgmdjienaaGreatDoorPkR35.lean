/- OReadBlock OReadBucket -/
import Derived.Test.YtoopdhgmdjienaaGreatDoorPkR29
import Derived.Test.YtoopdhgmdjienaaGreatDoorPkR34
namespace Go.Proofs.YtoopdhgmdjienaaGreatDoor
set_option linter.unusedVariables false
set_option maxRecDepth 20000
open Go.ChangeShapes Go.WideShapes Go.ChangeAt Go.RowKit Go.Joins
open Go.ChangeMaps (open_string shut_string)
set_option maxHeartbeats 64000000
abbrev zcBlock:Array Value:=#[.int .i64 0,.slice none 0 0]
theorem oreadBlock_c (s:ByteArray) (w:World) (hs:s.size < 1000000) {v0:Int} {L:List (List Int)} {r:Nat} (hr:decG csBlock s.data.toList = ([ValN.num v0,ValN.lst L],r)) :
 Calls Tryz.prog 145 #[.string s] w fun e w' => ∃ (A:Option Addr) (n cap:Nat),e = .returned (.tuple #[.agg #[.int .i64 v0,.slice A n cap],.int .i64 (r:Int)]) ∧ Wider w w' ∧ L.length = n ∧ w'.ownsRow w.heap.size 66 7 (.slice A n cap) n (cellsK ksInstr L):=by
 obtain ⟨m,c,hd⟩ : ∃ m c,decA [] 0 s.data.toList = (m,c):=⟨_,_,rfl⟩
 have H0:=((Own.nil (Wider.refl w)).blk zcBlock 42).blk zcBlock 42
 have hz:(w.alloc (.cells zcBlock 42)).heap.size = w.heap.size + 1:=by simp
 rw [hz] at H0
 have HR:=Lib.hid hr
 have hl:=decA_few hd
 obtain ⟨n,hn⟩ : ∃ n,m.length = n:=⟨_,rfl⟩
 rw [hn] at hl
 have HM:=Lib.hid hn
 have zd:=fun W:World => odec_c s W hs hd hn
 have HD:=Lib.hid hd
 clear hr hz hd hn
 obtain ⟨i0,hi0,hp0,hq0,hr0⟩:=info_parts infoInstr
 by_cases c0:c = 0
 · subst c0
   go_enter Tryz.func145,Tryz.ntmps145
   go_wp2_with (go_at_call 31; ((with_reducible refine (zd _).mono ?_); rintro e w2 ⟨A,cp,rfl,g2,h2⟩; have H1:=(H0.row g2 h2).nils 66 7))
   clear H0 zd g2 h2
   go_loopw [7] (fun i wr => ∃ j:Nat,j ≤ n ∧ i = .int .i64 (j:Int) ∧ ∃ (cu0:Int) (Al:Option Addr) (nl cl:Nat) (Lu:List (List Int)),Own w wr [rowT 77 2 (.slice A n cp) n (cellsA m),blkT (w.heap.size + 1) #[.int .i64 cu0,.slice Al nl cl] 42,blkT w.heap.size zcBlock 42,rowT 66 7 (.slice Al nl cl) nl (cellsK ksInstr Lu)] ∧ Hid (Lu.length = nl ∧ readG csBlock (zeroG csBlock) (m.take j) = some [ValN.num cu0,ValN.lst Lu])) (fun i _ => n - (intOf i).toNat)
   case atStart => exact ⟨0,by omega,by simp,0,none,0,0,[],H1,rfl,rfl⟩
   case round =>
    obtain ⟨j,hj,rfl,cu0,Al,nl,cl,Lu,H,HG⟩:=hrel
    clear H1
    by_cases cj:j < n
    · have j0:(0:Int) ≤ (j:Int):=by omega
      have j1:(j:Int) < (n:Int):=by omega
      obtain ⟨x,hx⟩:=next_some m j (by rw [HM.out]; exact cj)
      obtain ⟨A',cp',ea,ha,_⟩:=atsAt_own H.head
      injection ea with ea1 ea2 ea3
      subst ea1 ea3
      cases A with
      | none => exact absurd (ha.none_ rfl) (by intro e; rw [e] at hx; simp at hx)
      | some a =>
        have hA:=ha.cell a rfl j x hx
        have HX:=Lib.hid hx
        have HS:Hid (readG csBlock (zeroG csBlock) (m.take (j + 1)) = stepG csBlock [ValN.num cu0,ValN.lst Lu] x):=readG_next HG.out.2 hx
        have HN:stepG csBlock [ValN.num cu0,ValN.lst Lu] x = none → ([ValN.num v0,ValN.lst L] = [ValN.num 0,ValN.lst []] ∧ r = 3):=fun e => by
         have q:=HR.out
         rw [decG_none HD.out (readG_stuck HG.out.2 hx e)] at q
         injection q with q1 q2
         exact ⟨q1.symm,q2.symm⟩
        have sz:x.v.size < 1000000:=attr_small HD.out hs hx
        clear hx ha
        obtain ⟨t,q⟩:=x
        have ⟨k0,k1⟩:=hA
        have k2:=hA.flat
        simp only at k0 k1 k2 sz
        clear hA
        by_cases t0:t = 1
        · subst t0
          have e0:(((1:Nat):Int) == 1) = true:=by decide
          obtain ⟨y,z,hyz⟩ : ∃ y z,rnumN q.data.toList 2147483647 = (y,z):=⟨_,_,rfl⟩
          by_cases z0:z = 0
          · subst z0
            have hle:=(rnum_inv _ _ _ hyz).1
            have zr:=fun W:World => oread_c q 2147483647 2147483647 rfl W sz (by decide) (b:=true) hyz (by simp)
            have HS2:Hid (readG csBlock (zeroG csBlock) (m.take (j + 1)) = some [ValN.num (y:Int),ValN.lst Lu]):=by
             show _ = _
             rw [HS.out]
             exact step_at (show codeAt csBlock 1 = some nI from rfl) (numV_yes hyz)
            have w1:IntKind.i64.wrap (y:Int) = (y:Int):=by simp [IntKind.wrap,IntKind.bits,IntKind.signed]; omega
            clear HS HN hyz
            go_wp2_with (go_at_call 176; ((with_reducible refine (zr _).mono ?_); rintro e w3 ⟨rfl,g3⟩; have H3:=H.quiet g3; have kx:=blk_cell H3.second 0 (v:=.int .i64 cu0) rfl; have fx:=blk_free H3.second 0))
            have H4:=(H3.swap.store 0 (.int .i64 (y:Int))).swap
            go_roundw
            case rel => exact ⟨j + 1,by omega,by go_num,(y:Int),Al,nl,cl,Lu,H4,HG.out.1,HS2.out⟩
            case measure => simp [intOf]; omega
          · obtain ⟨rfl,rfl⟩ : y = 0 ∧ z = 3:=by
             rcases rnum_codes q.data.toList 2147483647 with k | k
             · rw [hyz] at k; exact absurd k z0
             · rw [hyz] at k; injection k with k1 k2; exact ⟨k1,k2⟩
            have zr:=fun W:World => oread_c q 2147483647 2147483647 rfl W sz (by decide) (b:=false) hyz (by simp)
            have hst:stepG csBlock [ValN.num cu0,ValN.lst Lu] ⟨1,q⟩ = none:=step_bad (show codeAt csBlock 1 = some nI from rfl) (numV_no hyz)
            obtain ⟨hv,rfl⟩:=HN hst
            simp only [ValN.num.injEq,ValN.lst.injEq,List.cons.injEq,and_true] at hv
            obtain ⟨rfl,rfl⟩:=hv
            clear HS HN hst HR HG
            go_wp2_with (first
             | (go_at_call 176; ((with_reducible refine (zr _).mono ?_); rintro e w3 ⟨rfl,g3⟩; have H3:=H.quiet g3; have kx:=blk_cell H3.second 0 (v:=.int .i64 cu0) rfl; have fx:=blk_free H3.second 0; have H4:=H3.swap.store 0 (.int .i64 0); have hR:=H4.drop.drop.head))
             | (with_reducible refine wpList_store_row rfl 42 (.tmp 2) (.tmp 87) rfl w.heap.size zcBlock rfl rfl 42 zcBlock hR (by kernel_rfl) rfl (by simp [Value.oneCell']) ?_; obtain ⟨g6,h6⟩:=setRow_facts zcBlock hR))
            have W6:Wider w _:=g6.wider H4.wider (by intro i m; simp only [List.mem_singleton] at m; omega)
            have hl:=run_loadVar_row (P:=Tryz.prog) _ w.heap.size 42 42 _ (0,0) _ h6 Tryz.underlying42 rfl (by kernel_rfl)
            simp [bodyPost,results,Tryz.results145,asAddr,hl]
            exact ⟨none,0,0,by simp,W6,rfl,World.ownsRow_nil _ _ _ _⟩
        by_cases t1:t = 2
        · subst t1
          have e0:(((2:Nat):Int) == 1) = false:=by decide
          have e1:(((2:Nat):Int) == 2) = true:=by decide
          have hLu:Lu = []:=by
           have q1:=readG_fresh (decA_okA HD.out) HG.out.2 HX.out
           have q2:some (ValN.lst Lu) = some (ValN.lst []):=q1
           injection q2 with q2
           injection q2
          subst hLu
          obtain rfl:0 = nl:=HG.out.1
          obtain ⟨it,z,hyz⟩ : ∃ it z,decT [] 32 q.data.toList = (it,z):=⟨_,_,rfl⟩
          obtain ⟨ni,hni⟩ : ∃ ni,it.length = ni:=⟨_,rfl⟩
          obtain ⟨b0,hb0⟩ : ∃ b:Bool,b = true ↔ z = 0:=⟨decide (z = 0),decide_eq_true_iff⟩
          have zi:=fun W:World => oitems_o q 32 32 rfl W sz (by decide) hyz hni hb0
          have HK0:Hid (([] : List (List Int)).length = 0 ∧ (b0 = true → z = 0 ∧ mapD cInstr.dec (it.take 0) = some []) ∧ (b0 = false → stepG csBlock [ValN.num cu0,ValN.lst []] ⟨2,q⟩ = none)) :=
           ⟨rfl,fun e => ⟨hb0.1 e,rfl⟩,fun e => step_bad (show codeAt csBlock 2 = some lCode from rfl) (lstV_bad (hm:=by decide) (hi:=by decide) hyz (fun k => by rw [hb0.2 k] at e; cases e))⟩
          have HI:=Lib.hid hyz
          have HNI:=Lib.hid hni
          clear hyz hni hb0
          go_wp2_with (go_at_call 177; ((with_reducible refine (zi _).mono ?_); rintro e w3 ⟨Aa,ca,rfl,g3,h3⟩; have H3:=(H.row g3 h3).in5))
          clear zi H
          go_loopw [9,12] (fun ok i wr => ∃ k:Nat,k ≤ ni ∧ i = .int .i64 (k:Int) ∧ ∃ (bo:Bool) (Bl:Option Addr) (dl:Nat) (Lk:List (List Int)),ok = .bool bo ∧ Own w wr [rowT 66 7 (.slice Bl k dl) k (cellsK ksInstr Lk),blkT (w.heap.size + 1) #[.int .i64 cu0,.slice Bl k dl] 42,rowT 9 1 (.slice Aa ni ca) ni (cellsS it),rowT 77 2 (.slice (some a) n cp) n (cellsA m),blkT w.heap.size zcBlock 42] ∧ Hid (Lk.length = k ∧ (bo = true → z = 0 ∧ mapD cInstr.dec (it.take k) = some Lk) ∧ (bo = false → stepG csBlock [ValN.num cu0,ValN.lst []] ⟨2,q⟩ = none))) (fun _ i _ => ni - (intOf i).toNat)
          case atStart => exact ⟨0,by omega,by simp,b0,Al,cl,[],rfl,H3,HK0⟩
          case round =>
           obtain ⟨k,hk,rfl,bo,Bl,dl,Lk,rfl,H,HK⟩:=hrel
           clear H3 HK0
           cases bo with
           | false =>
             have hst:=HK.out.2.2 rfl
             have hR:=H.drop.drop.drop.drop.head
             by_cases ck:k < ni
             · have j2:(k:Int) < (ni:Int):=by omega
               obtain ⟨hv,rfl⟩:=HN hst
               simp only [ValN.num.injEq,ValN.lst.injEq,List.cons.injEq,and_true] at hv
               obtain ⟨rfl,rfl⟩:=hv
               clear HS HN hst HR HG
               go_wp2_with (first
                | (with_reducible refine wpList_store_row rfl 42 (.tmp 2) (.tmp 87) rfl w.heap.size zcBlock rfl rfl 42 zcBlock hR (by kernel_rfl) rfl (by simp [Value.oneCell']) ?_; obtain ⟨g6,h6⟩:=setRow_facts zcBlock hR))
               have W6:Wider w _:=g6.wider H.wider (by intro i m; simp only [List.mem_singleton] at m; omega)
               have hl:=run_loadVar_row (P:=Tryz.prog) _ w.heap.size 42 42 _ (0,0) _ h6 Tryz.underlying42 rfl (by kernel_rfl)
               simp [bodyPost,results,Tryz.results145,asAddr,hl]
               exact ⟨none,0,0,by simp,W6,rfl,World.ownsRow_nil _ _ _ _⟩
             · have j2:¬ (k:Int) < (ni:Int):=by omega
               obtain ⟨hv,rfl⟩:=HN hst
               simp only [ValN.num.injEq,ValN.lst.injEq,List.cons.injEq,and_true] at hv
               obtain ⟨rfl,rfl⟩:=hv
               clear HS HN hst HR HG
               go_wp2_with (first
                | (with_reducible refine wpList_store_row rfl 42 (.tmp 2) (.tmp 87) rfl w.heap.size zcBlock rfl rfl 42 zcBlock hR (by kernel_rfl) rfl (by simp [Value.oneCell']) ?_; obtain ⟨g6,h6⟩:=setRow_facts zcBlock hR))
               have W6:Wider w _:=g6.wider H.wider (by intro i m; simp only [List.mem_singleton] at m; omega)
               have hl:=run_loadVar_row (P:=Tryz.prog) _ w.heap.size 42 42 _ (0,0) _ h6 Tryz.underlying42 rfl (by kernel_rfl)
               simp [bodyPost,results,Tryz.results145,asAddr,hl]
               exact ⟨none,0,0,by simp,W6,rfl,World.ownsRow_nil _ _ _ _⟩
           | true =>
             obtain ⟨hz0,hmd⟩:=HK.out.2.1 rfl
             subst hz0
             by_cases ck:k < ni
             · have j2:(0:Int) ≤ (k:Int):=by omega
               have j3:(k:Int) < (ni:Int):=by omega
               obtain ⟨x2,hx2⟩:=next_some it k (by rw [HNI.out]; exact ck)
               have hl2:=H.drop.drop.strs
               cases Aa with
               | none => exact absurd (hl2.none_ rfl) (by intro e; rw [e] at hx2; simp at hx2)
               | some a2 =>
                 have cq:=hl2.cell a2 rfl k x2 hx2
                 have sz2:x2.size < 1000000:=item_small HI.out sz hx2
                 have hmo:ni ≤ 32:=by have q:=decT_most HI.out; rw [HNI.out] at q; exact q
                 have X1:Hid (k + 1 ≤ maxLen):=by show _ ≤ maxLen; unfold maxLen; omega
                 have X2:Hid ((k + 1) * 56 ≤ 140737488355328):=by show _ ≤ _; omega
                 obtain ⟨yl,r1,hdec⟩ : ∃ yl r1,decG csInstr x2.data.toList = (yl,r1):=⟨_,_,rfl⟩
                 have hyl:=decG_items csInstr x2.data.toList
                 rw [hdec] at hyl
                 obtain ⟨a0,a1,a2,a3,a4,a5,a6,rfl⟩ : ∃ a0 a1 a2 a3 a4 a5 a6:Int,yl = [a0,a1,a2,a3,a4,a5,a6]:=by
                  match yl,hyl with
                  | [a0,a1,a2,a3,a4,a5,a6],_ => exact ⟨_,_,_,_,_,_,_,rfl⟩
                 obtain ⟨b1,hb1⟩ : ∃ b:Bool,b = true ↔ r1 = 0:=⟨decide (r1 = 0),decide_eq_true_iff⟩
                 have zy:=fun W:World => oreadInstr_c x2 W sz2 hdec hb1
                 have HK2:Hid ((Lk ++ [[a0,a1,a2,a3,a4,a5,a6]]).length = k + 1 ∧ (b1 = true → 0 = 0 ∧ mapD cInstr.dec (it.take (k + 1)) = some (Lk ++ [[a0,a1,a2,a3,a4,a5,a6]])) ∧ (b1 = false → stepG csBlock [ValN.num cu0,ValN.lst []] ⟨2,q⟩ = none)) :=
                  ⟨by rw [List.length_append,HK.out.1]; rfl,fun e => ⟨rfl,mapD_some_snoc hmd hx2 (show cInstr.dec x2 = some [a0,a1,a2,a3,a4,a5,a6] from by show (if (decG csInstr x2.data.toList).2 = 0 then some (decG csInstr x2.data.toList).1 else none) = _; rw [hdec,hb1.1 e]; rfl)⟩,fun e => step_bad (show codeAt csBlock 2 = some lCode from rfl) (lstV_no (hm:=by decide) (hi:=by decide) HI.out (mapD_none_snoc hmd hx2 (show cInstr.dec x2 = none from by show (if (decG csInstr x2.data.toList).2 = 0 then some (decG csInstr x2.data.toList).1 else none) = _; rw [hdec]; exact if_neg (fun k => by rw [hb1.2 k] at e; cases e))))⟩
                 have SN:Hid (cellsK ksInstr Lk ++ #[.int .u8 a0,.int .i64 a1,.int .u8 a2,.int .u64 a3,.int .u8 a4,.int .u64 a5,.int .i64 a6].toList = cellsK ksInstr (Lk ++ [[a0,a1,a2,a3,a4,a5,a6]])):=(cellsK_snoc ksInstr Lk [a0,a1,a2,a3,a4,a5,a6]).symm
                 clear hx2 hdec hb1 hmd HK hyl
                 go_wp2_with (first
                  | (go_at_call 179; ((with_reducible refine (zy _).mono ?_); rintro e w3 ⟨rfl,g3⟩; have H4:=(H.quiet g3).blk #[.int .u8 0,.int .i64 0,.int .u8 0,.int .u64 0,.int .u8 0,.int .u64 0,.int .i64 0] 66))
                  | (with_reducible refine wpList_store_row rfl 66 (.tmp 13) (.tmp 76) rfl w3.heap.size #[.int .u8 a0,.int .i64 a1,.int .u8 a2,.int .u64 a3,.int .u8 a4,.int .u64 a5,.int .i64 a6] rfl rfl 66 #[.int .u8 0,.int .i64 0,.int .u8 0,.int .u64 0,.int .u8 0,.int .u64 0,.int .i64 0] H4.head (by kernel_rfl) rfl (by simp [Value.oneCell']) ?_; obtain ⟨g5,h5⟩:=setRow_facts #[.int .u8 a0,.int .i64 a1,.int .u8 a2,.int .u64 a3,.int .u8 a4,.int .u64 a5,.int .i64 a6] H4.head; have H5:=H4.turn (s:=blkT w3.heap.size #[.int .u8 a0,.int .i64 a1,.int .u8 a2,.int .u64 a3,.int .u8 a4,.int .u64 a5,.int .i64 a6] 66) g5 h5 (blk_stable _ _ _) (fun i m => ⟨.inl m,by simp only [List.mem_singleton] at m; subst m; exact (Array.getElem?_eq_some_iff.1 h5).1⟩); have kx:=blk_cell H5.drop.second 1 (v:=.slice Bl k dl) rfl)
                  | (with_reducible refine wpList_load_row rfl 66 (.tmp 13) rfl w3.heap.size rfl 66 #[.int .u8 a0,.int .i64 a1,.int .u8 a2,.int .u64 a3,.int .u8 a4,.int .u64 a5,.int .i64 a6] (0,0) _ H5.head Tryz.underlying66 rfl (by kernel_rfl) ?_; obtain ⟨wB,hwB⟩ : ∃ wB,(w3.alloc (.cells #[.int .u8 0,.int .i64 0,.int .u8 0,.int .u64 0,.int .u8 0,.int .u64 0,.int .i64 0] 66)).setRow w3.heap.size #[.int .u8 a0,.int .i64 a1,.int .u8 a2,.int .u64 a3,.int .u8 a4,.int .u64 a5,.int .i64 a6] = wB:=⟨_,rfl⟩; rw [hwB] at H5 kx ⊢; have H6:=Lib.hid (H5.drop.quiet ((Wider.refl wB).alloc (.cells #[.int .u8 a0,.int .i64 a1,.int .u8 a2,.int .u64 a3,.int .u8 a4,.int .u64 a5,.int .i64 a6] 66))); have SIDE:=Lib.hid (liesL wB #[.int .u8 a0,.int .i64 a1,.int .u8 a2,.int .u64 a3,.int .u8 a4,.int .u64 a5,.int .i64 a6] 66 (by simp [Value.oneCell'])); clear H5)
                  | (at_builtin; refine wpList_append_thing rfl (.tmp 80) (.tmp 82) 40 rfl 66 i0 (.agg #[.int .u8 0,.int .i64 0,.int .u8 0,.int .u64 0,.int .u8 0,.int .u64 0,.int .i64 0]) 7 56 Tryz.underlying40 hi0 hp0 hq0 hr0 rfl (by decide) (.slice Bl k dl) k (cellsK ksInstr Lk) rfl H6.out (some ⟨wB.heap.size,0,none⟩) 1 1 #[.int .u8 a0,.int .i64 a1,.int .u8 a2,.int .u64 a3,.int .u8 a4,.int .u64 a5,.int .i64 a6].toList rfl rfl (fun e => by cases e) (fun a e => by cases e; exact SIDE.out.1) SIDE.out.2 X1.out X2.out rfl SN.out ?_; intro B3 c3 w6 H7; have H8:=H7.swap; have kx:=blk_cell H8.head 1 (v:=.slice Bl k dl) rfl; have fx:=blk_free H8.head 1))
                 have H9:=(H8.store 1 (.slice B3 (k + 1) c3)).swap
                 go_roundw
                 case rel => exact ⟨k + 1,by omega,by go_num,b1,B3,c3,Lk ++ [[a0,a1,a2,a3,a4,a5,a6]],rfl,H9,HK2⟩
                 case measure => simp [intOf]; omega
             · obtain rfl:k = ni:=by omega
               have j2:¬ (k:Int) < (k:Int):=by omega
               rw [List.take_of_length_le (by rw [HNI.out]; exact Nat.le_refl _)] at hmd
               have HS2:Hid (readG csBlock (zeroG csBlock) (m.take (j + 1)) = some [ValN.num cu0,ValN.lst Lk]):=by
                show _ = _
                rw [HS.out]
                exact step_at (show codeAt csBlock 2 = some lCode from rfl) (lstV_yes (hm:=by decide) (hi:=by decide) HI.out hmd)
               have H4:=H.out5.drop
               have HL:=HK.out.1
               clear HS HN hmd HK H
               go_wp2
               go_roundw
               case rel => exact ⟨j + 1,by omega,by go_num,cu0,Bl,_,dl,Lk,H4,HL,HS2.out⟩
               case measure => simp [intOf]; omega
        have e0:((t:Int) == 1) = false:=by rw [beq_eq_false_iff_ne]; omega
        have e1:((t:Int) == 2) = false:=by rw [beq_eq_false_iff_ne]; omega
        have hst:stepG csBlock [ValN.num cu0,ValN.lst Lu] ⟨t,q⟩ = none:=step_none (by show ¬ (1 ≤ t ∧ t ≤ 2); omega)
        have hR:=H.drop.drop.head
        obtain ⟨hv,rfl⟩:=HN hst
        simp only [ValN.num.injEq,ValN.lst.injEq,List.cons.injEq,and_true] at hv
        obtain ⟨rfl,rfl⟩:=hv
        clear HS HN hst HR HG
        go_wp2_with (first
         | (with_reducible refine wpList_store_row rfl 42 (.tmp 2) (.tmp 87) rfl w.heap.size zcBlock rfl rfl 42 zcBlock hR (by kernel_rfl) rfl (by simp [Value.oneCell']) ?_; obtain ⟨g6,h6⟩:=setRow_facts zcBlock hR))
        have W6:Wider w _:=g6.wider H.wider (by intro i m; simp only [List.mem_singleton] at m; omega)
        have hl:=run_loadVar_row (P:=Tryz.prog) _ w.heap.size 42 42 _ (0,0) _ h6 Tryz.underlying42 rfl (by kernel_rfl)
        simp [bodyPost,results,Tryz.results145,asAddr,hl]
        exact ⟨none,0,0,by simp,W6,rfl,World.ownsRow_nil _ _ _ _⟩
    · obtain rfl:j = n:=by omega
      have j2:¬ (j:Int) < (j:Int):=by omega
      have q:=HR.out
      have q2:=HG.out.2
      rw [List.take_of_length_le (by rw [HM.out]; exact Nat.le_refl _)] at q2
      rw [decG_some HD.out q2] at q
      injection q with q3 q4
      subst q4
      simp only [ValN.num.injEq,ValN.lst.injEq,List.cons.injEq,and_true] at q3
      obtain ⟨rfl,rfl⟩:=q3
      have HL:=HG.out.1
      have hX:=H.second
      have hR:=H.drop.drop.head
      clear q2 HG HR
      go_wp2_with (first
       | (with_reducible refine wpList_load_row rfl 42 (.tmp 4) rfl (w.heap.size + 1) rfl 42 #[.int .i64 cu0,.slice Al nl cl] (0,0) _ hX Tryz.underlying42 rfl (by kernel_rfl) ?_)
       | (with_reducible refine wpList_store_row rfl 42 (.tmp 2) (.tmp 88) rfl w.heap.size #[.int .i64 cu0,.slice Al nl cl] rfl rfl 42 zcBlock hR (by kernel_rfl) rfl (by simp [Value.oneCell']) ?_; obtain ⟨g6,h6⟩:=setRow_facts #[.int .i64 cu0,.slice Al nl cl] hR))
      have HT:=H.third.turn (s:=blkT w.heap.size #[.int .i64 cu0,.slice Al nl cl] 42) g6 h6 (blk_stable _ _ _) (fun i m => ⟨.inl m,by simp only [List.mem_singleton] at m; subst m; exact (Array.getElem?_eq_some_iff.1 h6).1⟩)
      have W6:Wider w _:=g6.wider H.wider (by intro i m; simp only [List.mem_singleton] at m; omega)
      have hl:=run_loadVar_row (P:=Tryz.prog) _ w.heap.size 42 42 _ (0,0) _ h6 Tryz.underlying42 rfl (by kernel_rfl)
      simp [bodyPost,results,Tryz.results145,asAddr,hl]
      exact ⟨Al,nl,cl,by simp,W6,(by first | exact HL | rfl),own_base HT.drop.drop.drop⟩
 · have q:=HR.out
   rw [decG_err HD.out c0] at q
   injection q with q1 q2
   subst q2
   have q3:[ValN.num v0,ValN.lst L] = [ValN.num 0,ValN.lst []]:=q1.symm
   simp only [ValN.num.injEq,ValN.lst.injEq,List.cons.injEq,and_true] at q3
   obtain ⟨rfl,rfl⟩:=q3
   have d0:((c:Int) != 0) = true:=by rw [bne_iff_ne]; omega
   clear HR q1
   go_enter Tryz.func145,Tryz.ntmps145
   go_wp2_with (first
    | (go_at_call 31; ((with_reducible refine (zd _).mono ?_); rintro e w2 ⟨A,cp,rfl,g2,h2⟩; have H1:=H0.quiet g2; have hX:=H1.head; have hR:=H1.second))
    | (with_reducible refine wpList_load_row rfl 42 (.tmp 4) rfl (w.heap.size + 1) rfl 42 zcBlock (0,0) _ hX Tryz.underlying42 rfl (by kernel_rfl) ?_)
    | (with_reducible refine wpList_store_row rfl 42 (.tmp 2) (.tmp 22) rfl w.heap.size zcBlock rfl rfl 42 zcBlock hR (by kernel_rfl) rfl (by simp [Value.oneCell']) ?_; obtain ⟨g6,h6⟩:=setRow_facts zcBlock hR))
   have W6:Wider w _:=g6.wider H1.wider (by intro i m; simp only [List.mem_singleton] at m; omega)
   have hl:=run_loadVar_row (P:=Tryz.prog) _ w.heap.size 42 42 _ (0,0) _ h6 Tryz.underlying42 rfl (by kernel_rfl)
   simp [bodyPost,results,Tryz.results145,asAddr,hl]
   exact ⟨none,0,0,by simp,W6,rfl,World.ownsRow_nil _ _ _ _⟩
end Go.Proofs.YtoopdhgmdjienaaGreatDoor
namespace Go.Proofs.YtoopdhgmdjienaaGreatDoor
set_option linter.unusedVariables false
open Go.ChangeShapes Go.WideShapes Go.ChangeAt Go.RowKit Go.Joins
open Go.ChangeMaps (open_string shut_string)
set_option maxHeartbeats 64000000
set_option maxRecDepth 4000 in
theorem oreadBucket_c (s:ByteArray) (w:World) (hs:s.size < 1000000) {v0 v1:Int} {r:Nat} (hr:decG csBucket s.data.toList = ([v0,v1],r)) {b:Bool} (hb:b = true ↔ r = 0) :
 Calls Tryz.prog 180 #[.string s] w fun e w' => e = .returned (.tuple #[.agg #[.int .u64 v0,.int .i64 v1],.bool b]) ∧ Wider w w':=by
 obtain ⟨m,c,hd⟩ : ∃ m c,decA [] 0 s.data.toList = (m,c):=⟨_,_,rfl⟩
 have H0:=((Own.nil (Wider.refl w)).blk #[.int .u64 0,.int .i64 0] 150).blk #[.int .u64 0,.int .i64 0] 150
 have hz:(w.alloc (.cells #[.int .u64 0,.int .i64 0] 150)).heap.size = w.heap.size + 1:=by simp
 rw [hz] at H0
 have HR:=Lib.hid hr
 have HB:=Lib.hid hb
 have hl:=decA_few hd
 obtain ⟨n,hn⟩ : ∃ n,m.length = n:=⟨_,rfl⟩
 rw [hn] at hl
 have HM:=Lib.hid hn
 have zd:=fun W:World => odec_c s W hs hd hn
 have HD:=Lib.hid hd
 clear hr hz hd hn hb
 by_cases c0:c = 0
 · subst c0
   go_enter Tryz.func180,Tryz.ntmps180
   go_wp2_with (go_at_call 31; ((with_reducible refine (zd _).mono ?_); rintro e w2 ⟨A,cp,rfl,g2,h2⟩; have H1:=H0.row g2 h2))
   clear H0 zd g2 h2
   go_loopw [7] (fun i wr => ∃ j:Nat,j ≤ n ∧ i = .int .i64 (j:Int) ∧ ∃ u0 u1:Int,Own w wr [rowT 77 2 (.slice A n cp) n (cellsA m),blkT (w.heap.size + 1) #[.int .u64 u0,.int .i64 u1] 150,blkT w.heap.size #[.int .u64 0,.int .i64 0] 150] ∧ Hid (readG csBucket (zeroG csBucket) (m.take j) = some [u0,u1])) (fun i _ => n - (intOf i).toNat)
   case atStart => exact ⟨0,by omega,by simp,0,0,H1,rfl⟩
   case round =>
    obtain ⟨j,hj,rfl,u0,u1,H,HG⟩:=hrel
    have HQ:=Lib.hid H1
    clear H1
    by_cases cj:j < n
    · have j0:(0:Int) ≤ (j:Int):=by omega
      have j1:(j:Int) < (n:Int):=by omega
      obtain ⟨x,hx⟩:=next_some m j (by rw [HM.out]; exact cj)
      obtain ⟨A',cp',ea,ha,_⟩:=atsAt_own H.head
      injection ea with ea1 ea2 ea3
      subst ea1 ea3
      cases A with
      | none => exact absurd (ha.none_ rfl) (by intro e; rw [e] at hx; simp at hx)
      | some a =>
        have hA:=ha.cell a rfl j x hx
        have HX:=Lib.hid hx
        have HS:Hid (readG csBucket (zeroG csBucket) (m.take (j + 1)) = stepG csBucket [u0,u1] x):=readG_next HG.out hx
        have HN:stepG csBucket [u0,u1] x = none → ([v0,v1] = [0,0] ∧ r = 3):=fun e => by
         have q:=HR.out
         rw [decG_none HD.out (readG_stuck HG.out hx e)] at q
         injection q with q1 q2
         exact ⟨q1.symm,q2.symm⟩
        have sz:x.v.size < 1000000:=attr_small HD.out hs hx
        clear hx ha
        obtain ⟨t,q⟩:=x
        have ⟨k0,k1⟩:=hA
        have k2:=hA.flat
        simp only at k0 k1 k2 sz
        clear hA
        by_cases t0:t = 1
        · subst t0
          have e0:(((1:Nat):Int) == 1) = true:=by decide
          obtain ⟨y,z,hyz⟩ : ∃ y z,rnumN q.data.toList 18446744073709551615 = (y,z):=⟨_,_,rfl⟩
          by_cases z0:z = 0
          · subst z0
            have hle:=(rnum_inv _ _ _ hyz).1
            have zr:=fun W:World => oread_c q 18446744073709551615 18446744073709551615 rfl W sz (by decide) (b:=true) hyz (by simp)
            have HS2:Hid (readG csBucket (zeroG csBucket) (m.take (j + 1)) = some [(y:Int),u1]):=by
             show _ = _
             rw [HS.out]
             exact step_at (show codeAt csBucket 1 = some iU from rfl) (numC_yes hyz)
            have w1:IntKind.u64.wrap (y:Int) = (y:Int):=by simp [IntKind.wrap,IntKind.bits,IntKind.signed]; omega
            clear HS HN hyz
            go_wp2_with (go_at_call 176; ((with_reducible refine (zr _).mono ?_); rintro e w3 ⟨rfl,g3⟩; have H3:=H.quiet g3; have kx:=blk_cell H3.second 0 (v:=.int .u64 u0) rfl; have fx:=blk_free H3.second 0))
            have H4:=(H3.swap.store 0 (.int .u64 (y:Int))).swap
            go_roundw
            case rel => exact ⟨j + 1,by omega,by go_num,(y:Int),u1,H4,HS2⟩
            case measure => simp [intOf]; omega
          · obtain ⟨rfl,rfl⟩ : y = 0 ∧ z = 3:=by
             rcases rnum_codes q.data.toList 18446744073709551615 with k | k
             · rw [hyz] at k; exact absurd k z0
             · rw [hyz] at k; injection k with k1 k2; exact ⟨k1,k2⟩
            have zr:=fun W:World => oread_c q 18446744073709551615 18446744073709551615 rfl W sz (by decide) (b:=false) hyz (by simp)
            have hst:stepG csBucket [u0,u1] ⟨1,q⟩ = none:=by
             exact step_bad (show codeAt csBucket 1 = some iU from rfl) (numC_no hyz)
            obtain ⟨hv,rfl⟩:=HN hst
            simp only [List.cons.injEq,and_true] at hv
            obtain ⟨rfl,rfl⟩:=hv
            obtain rfl:b = false:=by
             cases b with
             | false => rfl
             | true => exact absurd (HB.out.1 rfl) (by decide)
            clear HS HN hst HR HG
            go_wp2_with (go_at_call 176; ((with_reducible refine (zr _).mono ?_); rintro e w3 ⟨rfl,g3⟩; have H3:=H.quiet g3; have kx:=blk_cell H3.second 0 (v:=.int .u64 u0) rfl; have fx:=blk_free H3.second 0; have kr0:=blk_cell H3.drop.second 0 (v:=.int .u64 0) rfl; have fr0:=blk_free H3.drop.second 0; have kr1:=blk_cell H3.drop.second 1 (v:=.int .i64 0) rfl; have fr1:=blk_free H3.drop.second 1))
            have H5:=(((H3.swap.store 0 (.int .u64 0)).third.store 0 (.int .u64 0)).store 1 (.int .i64 0))
            have d100:=blk_cell H5.head 0 (v:=.int .u64 0) rfl
            have d101:=blk_cell H5.head 1 (v:=.int .i64 0) rfl
            simp [bodyPost,results,Tryz.results180,go_sem,d100,d101]
            exact H5.wider
        by_cases t1:t = 2
        · subst t1
          have e0:(((2:Nat):Int) == 1) = false:=by decide
          have e1:(((2:Nat):Int) == 2) = true:=by decide
          obtain ⟨y,z,hyz⟩ : ∃ y z,rnumN q.data.toList 2147483647 = (y,z):=⟨_,_,rfl⟩
          by_cases z0:z = 0
          · subst z0
            have hle:=(rnum_inv _ _ _ hyz).1
            have zr:=fun W:World => oread_c q 2147483647 2147483647 rfl W sz (by decide) (b:=true) hyz (by simp)
            have HS2:Hid (readG csBucket (zeroG csBucket) (m.take (j + 1)) = some [u0,(y:Int)]):=by
             show _ = _
             rw [HS.out]
             exact step_at (show codeAt csBucket 2 = some iI from rfl) (numC_yes hyz)
            have w1:IntKind.i64.wrap (y:Int) = (y:Int):=by simp [IntKind.wrap,IntKind.bits,IntKind.signed]; omega
            clear HS HN hyz
            go_wp2_with (go_at_call 176; ((with_reducible refine (zr _).mono ?_); rintro e w3 ⟨rfl,g3⟩; have H3:=H.quiet g3; have kx:=blk_cell H3.second 1 (v:=.int .i64 u1) rfl; have fx:=blk_free H3.second 1))
            have H4:=(H3.swap.store 1 (.int .i64 (y:Int))).swap
            go_roundw
            case rel => exact ⟨j + 1,by omega,by go_num,u0,(y:Int),H4,HS2⟩
            case measure => simp [intOf]; omega
          · obtain ⟨rfl,rfl⟩ : y = 0 ∧ z = 3:=by
             rcases rnum_codes q.data.toList 2147483647 with k | k
             · rw [hyz] at k; exact absurd k z0
             · rw [hyz] at k; injection k with k1 k2; exact ⟨k1,k2⟩
            have zr:=fun W:World => oread_c q 2147483647 2147483647 rfl W sz (by decide) (b:=false) hyz (by simp)
            have hst:stepG csBucket [u0,u1] ⟨2,q⟩ = none:=by
             exact step_bad (show codeAt csBucket 2 = some iI from rfl) (numC_no hyz)
            obtain ⟨hv,rfl⟩:=HN hst
            simp only [List.cons.injEq,and_true] at hv
            obtain ⟨rfl,rfl⟩:=hv
            obtain rfl:b = false:=by
             cases b with
             | false => rfl
             | true => exact absurd (HB.out.1 rfl) (by decide)
            clear HS HN hst HR HG
            go_wp2_with (go_at_call 176; ((with_reducible refine (zr _).mono ?_); rintro e w3 ⟨rfl,g3⟩; have H3:=H.quiet g3; have kx:=blk_cell H3.second 1 (v:=.int .i64 u1) rfl; have fx:=blk_free H3.second 1; have kr0:=blk_cell H3.drop.second 0 (v:=.int .u64 0) rfl; have fr0:=blk_free H3.drop.second 0; have kr1:=blk_cell H3.drop.second 1 (v:=.int .i64 0) rfl; have fr1:=blk_free H3.drop.second 1))
            have H5:=(((H3.swap.store 1 (.int .i64 0)).third.store 0 (.int .u64 0)).store 1 (.int .i64 0))
            have d100:=blk_cell H5.head 0 (v:=.int .u64 0) rfl
            have d101:=blk_cell H5.head 1 (v:=.int .i64 0) rfl
            simp [bodyPost,results,Tryz.results180,go_sem,d100,d101]
            exact H5.wider
        have e0:((t:Int) == 1) = false:=by rw [beq_eq_false_iff_ne]; omega
        have e1:((t:Int) == 2) = false:=by rw [beq_eq_false_iff_ne]; omega
        have hst:stepG csBucket [u0,u1] ⟨t,q⟩ = none:=step_none (by show ¬ (1 ≤ t ∧ t ≤ 2); omega)
        obtain ⟨hv,rfl⟩:=HN hst
        simp only [List.cons.injEq,and_true] at hv
        obtain ⟨rfl,rfl⟩:=hv
        obtain rfl:b = false:=by
         cases b with
         | false => rfl
         | true => exact absurd (HB.out.1 rfl) (by decide)
        clear HS HN hst HR HG
        have kr0:=blk_cell H.drop.second 0 (v:=.int .u64 0) rfl
        have fr0:=blk_free H.drop.second 0
        have kr1:=blk_cell H.drop.second 1 (v:=.int .i64 0) rfl
        have fr1:=blk_free H.drop.second 1
        go_wp2
        have H5:=((H.third.store 0 (.int .u64 0)).store 1 (.int .i64 0))
        have d100:=blk_cell H5.head 0 (v:=.int .u64 0) rfl
        have d101:=blk_cell H5.head 1 (v:=.int .i64 0) rfl
        simp [bodyPost,results,Tryz.results180,go_sem,d100,d101]
        exact H5.wider
    · obtain rfl:j = n:=by omega
      have q:=HR.out
      have q2:=HG.out
      rw [List.take_of_length_le (by rw [HM.out]; exact Nat.le_refl _)] at q2
      rw [decG_some HD.out q2] at q
      injection q with q3 q4
      subst q4
      simp only [List.cons.injEq,and_true] at q3
      obtain ⟨rfl,rfl⟩:=q3
      obtain rfl:b = true:=HB.out.2 rfl
      have kx0:=blk_cell H.second 0 (v:=.int .u64 u0) rfl
      have kr0:=blk_cell H.drop.second 0 (v:=.int .u64 0) rfl
      have fr0:=blk_free H.drop.second 0
      have kx1:=blk_cell H.second 1 (v:=.int .i64 u1) rfl
      have kr1:=blk_cell H.drop.second 1 (v:=.int .i64 0) rfl
      have fr1:=blk_free H.drop.second 1
      clear q2 HG HR HQ
      go_wp2
      have H5:=((H.third.store 0 (.int .u64 u0)).store 1 (.int .i64 u1))
      have d100:=blk_cell H5.head 0 (v:=.int .u64 u0) rfl
      have d101:=blk_cell H5.head 1 (v:=.int .i64 u1) rfl
      simp [bodyPost,results,Tryz.results180,go_sem,d100,d101]
      exact H5.wider
 · have q:=HR.out
   rw [decG_err HD.out c0] at q
   injection q with q1 q2
   subst q2
   have q3:[v0,v1] = [0,0]:=q1.symm
   simp only [List.cons.injEq,and_true] at q3
   obtain ⟨rfl,rfl⟩:=q3
   obtain rfl:b = false:=by
    cases b with
    | false => rfl
    | true => exact absurd (HB.out.1 rfl) c0
   have d0:((c:Int) != 0) = true:=by rw [bne_iff_ne]; omega
   clear HR q1
   go_enter Tryz.func180,Tryz.ntmps180
   go_wp2_with (go_at_call 31; ((with_reducible refine (zd _).mono ?_); rintro e w2 ⟨A,cp,rfl,g2,h2⟩; have H1:=H0.quiet g2; have kx0:=blk_cell H1.head 0 (v:=.int .u64 0) rfl; have kr0:=blk_cell H1.second 0 (v:=.int .u64 0) rfl; have fr0:=blk_free H1.second 0; have kx1:=blk_cell H1.head 1 (v:=.int .i64 0) rfl; have kr1:=blk_cell H1.second 1 (v:=.int .i64 0) rfl; have fr1:=blk_free H1.second 1))
   have H5:=((H1.swap.store 0 (.int .u64 0)).store 1 (.int .i64 0))
   have d100:=blk_cell H5.head 0 (v:=.int .u64 0) rfl
   have d101:=blk_cell H5.head 1 (v:=.int .i64 0) rfl
   simp [bodyPost,results,Tryz.results180,go_sem,d100,d101]
   exact H5.wider
end Go.Proofs.YtoopdhgmdjienaaGreatDoor
