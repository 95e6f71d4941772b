/- The law ProtoReads: the message whose body any bytes are, or how they are refused, is the document's; what is told may be written over. The table of kinds is as the program's text lays it (the card ties it). -/
import Derived.Test.YtoopdhgmdjienaaGreatDoorPkR50
import Derived.Test.YtoopdhgmdjienaaGreatDoorPkR51
import Derived.Test.YtoopdhgmdjienaaGreatDoorCards
namespace Go.Proofs.YtoopdhgmdjienaaGreatDoor
set_option linter.unusedVariables false
set_option maxRecDepth 20000
open Go.ChangeShapes Go.WideShapes Go.ChangeAt Go.RowKit Go.Joins
open Go.ChangeMaps (open_string shut_string)
set_option maxHeartbeats 64000000
theorem kinds_small {s:ByteArray} (h:¬ 20000 < s.size):s.size < 1000000:=by omega
theorem protoReads_walk (w:World) (HK:KindsAt w) (s:ByteArray) (hs:s.size ≤ maxLen) :
 Calls Tryz.prog 4 #[.string s] w fun e w' => e = .returned (.bool true) ∧ Wider w w':=by
 have HKK:=Lib.hid HK
 clear HK hs
 by_cases c:20000 < s.size
 · have c1:(20000:Int) < (s.size:Int):=by omega
   have G:=Wider.refl w
   clear c
   go_enter Tryz.func4,Tryz.ntmps4
   go_wp2_with (first
    | (go_at_call 11; (with_reducible refine (awake9_c _ (HKK.out.on G)).mono ?_); rintro e w5 ⟨rfl,g⟩))
   go_ret
   exact ⟨rfl,g⟩
 have hs9:=kinds_small c
 have c1:¬ (20000:Int) < (s.size:Int):=by omega
 obtain ⟨p,hp⟩ : ∃ p,decM s.data.toList = p:=⟨_,rfl⟩
 obtain ⟨⟨k,x,ps⟩,r⟩:=p
 have zD:∀ W:World,Calls Tryz.prog 21 #[.string s] W fun e w' => DocR W w' e k x ps r:=fun W => by
  have h:=rdecode_c s W hs9
  rw [hp] at h
  exact h
 have zP:∀ W:World,KindsAt W → Calls Tryz.prog 17 #[.string s] W fun e w' => DecR2 W w' e k x ps r:=fun W K => by
  have h:=pdecode_g2 s W hs9 K fun m _ => getOk_all m
  rw [hp] at h
  exact h
 clear c hs9 hp
 go_enter Tryz.func4,Tryz.ntmps4
 go_upto_region 4 with (first
  | (go_at_call 21; (with_reducible refine (zD _).mono ?_); rintro e w1 ⟨M,d,rfl,g1,R1,dk,dx,dp⟩; have sM:=R1.size; have oM:=R1.one; have hN:=heap_alloc_new w1 (.cells zM 51); have gN:=(Wider.refl w1).alloc (.cells zM 51))
  | (with_reducible refine wpList_store_row rfl 51 (.tmp 3) (.tmp 18) rfl w1.heap.size M rfl rfl 51 zM hN (by rw [sM]; kernel_rfl) (by rw [sM]; exact zM_size) oM ?_; obtain ⟨g2,h2⟩:=setRow_facts M hN))
 have g12:=g2.wider gN (by intro i m; obtain rfl:=List.mem_singleton.1 m; exact Nat.le_refl _)
 obtain ⟨B3,hB3⟩ : ∃ B3,w1.heap.size = B3:=⟨_,rfl⟩
 rw [hB3] at h2 g12
 rw [hB3]
 obtain ⟨W3,hW3⟩ : ∃ W3,World.setRow (w1.alloc (.cells zM 51)) B3 M = W3:=⟨_,rfl⟩
 rw [hW3] at h2 g12
 rw [hW3]
 have RD:=Lib.hid (R1.on g12)
 have G3:=Lib.hid (g1.trans g12)
 have HDD:=Lib.hid (And.intro dk (And.intro dx dp))
 have HA3:=Lib.hid h2
 clear hW3 hB3 g2 hN gN R1 g12 g1 dk dx dp h2 zD
 go_wp2
 go_loopw [5] (fun i wr => ∃ j:Nat,j ≤ 2 ∧ i = .int .i64 (j:Int) ∧ Hid (Wider W3 wr)) (fun i _ => 2 - (intOf i).toNat)
 case atStart => exact ⟨0,by omega,by simp,Wider.refl W3⟩
 case round =>
  obtain ⟨j,hj,rfl,HW⟩:=hrel
  by_cases cj:j < 2
  · have j1:(j:Int) < 2:=by omega
    have zP1:=zP wr (HKK.out.on (G3.out.trans HW.out))
    go_upto_region 8 with (first
     | (go_at_call 17; (with_reducible refine zP1.mono ?_); rintro e w4 ⟨N,dN,rfl,g4,RN,RmN,nk,nx,np⟩; have sN:=RN.here.size; have oN:=RN.here.one; have hN:=heap_alloc_new w4 (.cells zM 51); have gN:=(Wider.refl w4).alloc (.cells zM 51))
     | (with_reducible refine wpList_store_row rfl 51 (.tmp 6) (.tmp 27) rfl w4.heap.size N rfl rfl 51 zM hN (by rw [sN]; kernel_rfl) (by rw [sN]; exact zM_size) oN ?_; obtain ⟨g5,h5⟩:=setRow_facts N hN))
    have g45:=g5.wider gN (by intro i m; obtain rfl:=List.mem_singleton.1 m; exact Nat.le_refl _)
    obtain ⟨⟨A1,n1,c1',e1,l1,r1⟩,⟨A2,n2,c2',e2,l2,r2⟩,A3,n3,c3',e3,l3,r3⟩:=RmN
    have r1':=r1.upto
    have r2':=r2.upto
    have r3':=r3.upto
    obtain ⟨b0,hb0⟩ : ∃ b0,wr.heap.size = b0:=⟨_,rfl⟩
    rw [hb0] at r1' r2' r3'
    obtain ⟨B6,hB6⟩ : ∃ B6,w4.heap.size = B6:=⟨_,rfl⟩
    rw [hB6] at h5 g45 r1' r2' r3'
    rw [hB6]
    obtain ⟨W5,hW5⟩ : ∃ W5,World.setRow (w4.alloc (.cells zM 51)) B6 N = W5:=⟨_,rfl⟩
    rw [hW5] at h5 g45
    rw [hW5]
    have G5:=HW.out.trans (g4.trans g45)
    have RN5:=RN.here.on g45
    have hM5:=wide_blk HA3.out G5
    have zs:=fun (W:World) (g:Wider W5 W) => rsame_c W (RN5.on g) ((RD.out.on G5).on g) (r:=true) ⟨fun _ => ⟨nk.trans HDD.out.1.symm,nx.trans HDD.out.2.1.symm,np.trans HDD.out.2.2.symm⟩,fun _ => rfl⟩
    have HS0:Hid (StR W3 b0 B6 N A1 A2 A3 (n1 * 1) (n2 * 2) (n3 * 7) W5):=Lib.hid ⟨G5,h5,r1'.on g45,r2'.on g45,r3'.on g45⟩
    have hV0:Hid (W3.heap.size ≤ b0):=Lib.hid (by rw [← hb0]; exact HW.out.2)
    have er:((r:Int) != (r:Int)) = false:=bne_self_eq_false _
    clear hW5 hB6 hb0 hN gN g5 g45 RN nk nx np r1 r2 r3 r1' r2' r3' g4 RN5 G5 zP1
    go_upto_region 10 with (first
     | (with_reducible refine wpList_load_row_w (by kernel_rfl) 51 (.tmp 6) rfl B6 rfl 51 N (0,0) _ h5 Tryz.underlying51 rfl (by rw [sN]; kernel_rfl) ?_)
     | (with_reducible refine wpList_load_row_w (by kernel_rfl) 51 (.tmp 3) rfl B3 rfl 51 M (0,0) _ hM5 Tryz.underlying51 rfl (by rw [sM]; kernel_rfl) ?_)
     | (go_at_call 22; (with_reducible refine (zs _ (Wider.refl _)).mono ?_); rintro e w6 ⟨rfl,g6⟩))
    have HS7:Hid (StR W3 b0 B6 N A1 A2 A3 (n1 * 1) (n2 * 2) (n3 * 7) w6):=Lib.hid ⟨HS0.out.wide.trans g6,wide_blk HS0.out.box g6,HS0.out.r1.on g6,HS0.out.r2.on g6,HS0.out.r3.on g6⟩
    clear zs hM5 h5 g6 HS0
    go_wp2
    go_loopw [8] (fun i wr => ∃ q:Nat,q ≤ n1 ∧ i = .int .i64 (q:Int) ∧ Hid (StR W3 b0 B6 N A1 A2 A3 (n1 * 1) (n2 * 2) (n3 * 7) wr)) (fun i _ => n1 - (intOf i).toNat)
    case atStart => exact ⟨0,by omega,by simp,HS7⟩
    case round =>
     obtain ⟨q,hq,rfl,HS8⟩:=hrel
     have kc:=blk_cell HS8.out.box 10 e1
     by_cases cq:q < n1
     · have q0:(0:Int) ≤ (q:Int):=by omega
       have q1:(q:Int) < (n1:Int):=by omega
       have q2:IntKind.i64.wrap ((q:Int) + 1) = (q:Int) + 1:=by rw [IntKind.wrap_i64]; omega
       rcases HS8.out.r1 with hz | ⟨gb,cur,tt,rfl,hh,hm,hv,hb⟩
       · omega
       · have kx:wr.cell? ⟨gb,q,none⟩ = some (cur[q]'(by omega)):=blk_cell hh _ (Array.getElem?_eq_getElem (by omega))
         have fx:=blk_free hh (q)
         go_wp2_with (first
          | (with_reducible refine wpList_field rfl 51 (.tmp 6) 10 rfl B6 0 10 rfl (fieldM10 _) ?_))
         have HN:=HS8.out.set hV0.out hv hb (q) (.int .u64 7)
         go_roundw
         case rel => exact ⟨q + 1,by omega,by go_num,HN⟩
         case measure => simp [intOf]; omega
     · have q1:¬ (q:Int) < (n1:Int):=by omega
       go_upto_region 14 with (first
        | (with_reducible refine wpList_field rfl 51 (.tmp 6) 10 rfl B6 0 10 rfl (fieldM10 _) ?_))
       go_wp2
       go_loopw [9] (fun i wr => ∃ q:Nat,q ≤ n3 ∧ i = .int .i64 (q:Int) ∧ Hid (StR W3 b0 B6 N A1 A2 A3 (n1 * 1) (n2 * 2) (n3 * 7) wr)) (fun i _ => n3 - (intOf i).toNat)
       case atStart => exact ⟨0,by omega,by simp,HS8⟩
       case round =>
        obtain ⟨q,hq,rfl,HS9⟩:=hrel
        have kc:=blk_cell HS9.out.box 42 e3
        by_cases cq:q < n3
        · have q0:(0:Int) ≤ (q:Int):=by omega
          have q1:(q:Int) < (n3:Int):=by omega
          have q2:IntKind.i64.wrap ((q:Int) + 1) = (q:Int) + 1:=by rw [IntKind.wrap_i64]; omega
          rcases HS9.out.r3 with hz | ⟨gb,cur,tt,rfl,hh,hm,hv,hb⟩
          · omega
          · have kx:wr.cell? ⟨gb,q * 7,none⟩ = some (cur[q * 7]'(by omega)):=blk_cell hh _ (Array.getElem?_eq_getElem (by omega))
            have fx:=blk_free hh (q * 7)
            go_wp2_with (first
             | (with_reducible refine wpList_field rfl 51 (.tmp 6) 15 rfl B6 0 41 rfl (fieldM15 _) ?_)
             | (with_reducible refine wpList_field rfl 42 (.tmp 50) 1 rfl B6 41 42 rfl (fieldRowBlock _ _) ?_)
             | (with_reducible refine wpList_field rfl 42 (.tmp 57) 1 rfl B6 41 42 rfl (fieldRowBlock _ _) ?_))
            have HN:=HS9.out.set hV0.out hv hb (q * 7) (.int .u8 99)
            go_roundw
            case rel => exact ⟨q + 1,by omega,by go_num,HN⟩
            case measure => simp [intOf]; omega
        · have q1:¬ (q:Int) < (n3:Int):=by omega
          go_upto_region 18 with (first
           | (with_reducible refine wpList_field rfl 51 (.tmp 6) 15 rfl B6 0 41 rfl (fieldM15 _) ?_)
           | (with_reducible refine wpList_field rfl 42 (.tmp 50) 1 rfl B6 41 42 rfl (fieldRowBlock _ _) ?_))
          go_wp2
          go_loopw [10] (fun i wr => ∃ q:Nat,q ≤ n2 ∧ i = .int .i64 (q:Int) ∧ Hid (StR W3 b0 B6 N A1 A2 A3 (n1 * 1) (n2 * 2) (n3 * 7) wr)) (fun i _ => n2 - (intOf i).toNat)
          case atStart => exact ⟨0,by omega,by simp,HS9⟩
          case round =>
           obtain ⟨q,hq,rfl,HS10⟩:=hrel
           have kc:=blk_cell HS10.out.box 18 e2
           by_cases cq:q < n2
           · have q0:(0:Int) ≤ (q:Int):=by omega
             have q1:(q:Int) < (n2:Int):=by omega
             have q2:IntKind.i64.wrap ((q:Int) + 1) = (q:Int) + 1:=by rw [IntKind.wrap_i64]; omega
             rcases HS10.out.r2 with hz | ⟨gb,cur,tt,rfl,hh,hm,hv,hb⟩
             · omega
             · have kx:wr.cell? ⟨gb,q * 2 + 1,none⟩ = some (cur[q * 2 + 1]'(by omega)):=blk_cell hh _ (Array.getElem?_eq_getElem (by omega))
               have fx:=blk_free hh (q * 2 + 1)
               go_wp2_with (first
                | (with_reducible refine wpList_field rfl 51 (.tmp 6) 11 rfl B6 0 11 rfl (fieldM11 _) ?_)
                | (with_reducible refine wpList_field rfl 32 (.tmp 64) 7 rfl B6 11 18 rfl (fieldRowNode _ _) ?_)
                | (with_reducible refine wpList_field rfl 32 (.tmp 71) 7 rfl B6 11 18 rfl (fieldRowNode _ _) ?_))
               have HN:=HS10.out.set hV0.out hv hb (q * 2 + 1) (.int .i64 99)
               go_roundw
               case rel => exact ⟨q + 1,by omega,by go_num,HN⟩
               case measure => simp [intOf]; omega
           · have q1:¬ (q:Int) < (n2:Int):=by omega
             go_wp2_with (first
              | (with_reducible refine wpList_field rfl 51 (.tmp 6) 11 rfl B6 0 11 rfl (fieldM11 _) ?_)
              | (with_reducible refine wpList_field rfl 32 (.tmp 64) 7 rfl B6 11 18 rfl (fieldRowNode _ _) ?_))
             go_roundw
             case rel => exact ⟨j + 1,by omega,by go_num,HS10.out.wide⟩
             case measure => simp [intOf]; omega
  · obtain rfl:j = 2:=by omega
    have G:=G3.out.trans HW.out
    go_wp2_with (first
     | (go_at_call 11; (with_reducible refine (awake9_c _ (HKK.out.on G)).mono ?_); rintro e w5 ⟨rfl,g⟩))
    go_ret
    exact ⟨rfl,G.trans g⟩
set_option maxRecDepth 100000 in
theorem protoReads_lifted (os:Os) (started:os.Started) (H:Type) (enc:TypeId × Value → H) :
 ReturnsInHanded {} Tryz.checked os 4 .any (fun w args => (Rows.protoReadsSpec.pre enc Tryz.prog Tryz.f4 [] false w args ∧ laidMetH Tryz.prog Rows.protoReadsRow.laid w) ∧ sizedMet enc Tryz.prog Tryz.f4 (OpenSpec.ofChange Rows.protoReadsSpec) false w args)
  (Rows.protoReadsSpec.post enc Tryz.prog Tryz.f4 false true false false):=by
 refine returnsInHanded_of_change_and (C:=Tryz.checked) (X:=fun w _ => laidMetH Tryz.prog Rows.protoReadsRow.laid w) (fun _ _ _ hh h => h.of_heap hh) own started (by kernel_rfl) Tryz.func4
  (ChangeSpec.witness_shaped (enc:=enc) (C:=Tryz.checked) (os:=os) (X:=fun w _ => laidMetH Tryz.prog Rows.protoReadsRow.laid w) false (World.doorLaid Tryz.prog 14 os) #[.string ⟨#[]⟩] 8 rfl (World.shaped_of_RefB (by kernel_rfl) (by kernel_rfl)) (by kernel_rfl) (by kernel_rfl) (by kernel_rfl) (kinds_door_met os _)) ?_
 intro W base args ds gs before hval0 hW hcnd hsz hL _
 have hval:∀ (j:Nat) t v,Tryz.f4.params[j]? = some t → args[j]? = some v → Value.okWide Tryz.prog W .any base t v:=hval0
 have hW':=hW
 obtain ⟨p,q,hA0,hV,rfl,hfz,hnd⟩:=hW
 have hA:DataW.TrodAll enc Tryz.prog W 0 (fun _ => true) true Tryz.f4.params.toList args.toList ds p:=hA0
 rw [Tryz.params4] at hA hval
 obtain ⟨v0,vs0,d0,ds0,p0,q0,hargs,rfl,rfl,h0,r0⟩:=trodAll_cons hA
 obtain ⟨rfl,rfl,rfl⟩:=trodAll_nil r0
 obtain rfl:args = #[v0]:=by cases args; simp_all
 obtain ⟨rfl,rfl⟩:=trodVars_none hV
 obtain ⟨s0,rfl,rfl,rfl,w0⟩:=open_string Tryz.underlying9 (hval 0 9 v0 rfl rfl) h0
 have HK:=kinds_of_laid hL
 clear hA0 hval0 hL
 simp only [List.append_nil] at hW'
 refine (protoReads_walk W HK s0 w0).mono fun e W' ⟨he,hg⟩ => ?_
 subst he
 exact ⟨_,rfl,post_of_none hW' (fun _ _ _ => (trodAll_cons_mk (shut_bool Tryz.underlying4 _) trodAll_mk0)) (fun sp => (trodAll_cons_mk (shut_string Tryz.underlying9 w0) trodAll_mk0)) (fun _ => rfl)
  hg.1 (ok_one (by kernel_rfl) rfl (okWide_bool_mk Tryz.underlying4 _))⟩
theorem protoReads_holds:Rows.ProtoReadsSaid :=
 OpenClaim.holds_of_wide 4 Tryz.f4 rfl rfl rfl rfl rfl rfl rfl ⟨rfl,rfl,rfl,rfl,rfl⟩ rfl rfl rfl rfl rfl (by kernel_rfl) Tryz.func4 (by kernel_rfl)
  (of_decide_eq_true (by kernel_rfl)) (by unfold Func.isWrapper; first | (rw [if_pos (by decide +kernel)]; kernel_rfl) | (rw [if_neg (by decide +kernel)]; exact ⟨rfl,rfl⟩))
  (fun os started H enc _ => protoReads_lifted os started H enc)
theorem protoReads_card:Rows.ProtoReadsCardSaid :=
 Claim7.holds_tied_plain_at .later [] [.data] true Rows.protoReadsCard.stood.harness true
  protoReads_holds (fun _ h => by cases h) (by kernel_rfl) (fun _ h => by cases h) protoReads_row_tie rfl ⟨rfl,rfl⟩ (by kernel_rfl) rfl
  (fun f fn hf hfn => by
   obtain rfl : f = 4 := Option.some.inj ((show Tryz.prog.funcNamed "turnout/turnoutlaw09.ProtoReads" = some 4 by kernel_rfl).symm.trans hf) |>.symm
   obtain rfl:fn = Tryz.f4:=(Option.some.inj (Tryz.func4.symm.trans hfn)).symm
   exact ⟨by kernel_rfl,fun j t ht => by
    rw [Tryz.params4] at ht
    have hm:t ∈ [9]:=by simpa using Array.mem_of_getElem? ht
    have hall:([9].all fun u => !Tryz.prog.wantsStandIn u) = true:=by kernel_rfl
    exact (show Tryz.prog.wantsStandIn t = false by simpa using List.all_eq_true.1 hall t hm)⟩)
  (by kernel_rfl)
end Go.Proofs.YtoopdhgmdjienaaGreatDoor
