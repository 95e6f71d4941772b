/- PAttrs PMay PEnc PNum -/
import Derived.Test.YtoopdhgmdjienaaGreatDoorPkR42
import Derived.Test.YtoopdhgmdjienaaGreatDoorPkR41
namespace Go.Proofs.YtoopdhgmdjienaaGreatDoor
set_option linter.unusedVariables false
set_option maxRecDepth 20000
open Go.ChangeShapes Go.WideShapes Go.ChangeAt Go.RowKit Go.Joins
open Go.ChangeMaps (open_string shut_string)
set_option maxHeartbeats 64000000
theorem attrsG_take {β:Type} : ∀ (cs:List (Cod β)) (vs:List β) (k j:Nat) (c:Cod β) (v:β),cs[j]? = some c → vs[j]? = some v →
 attrsG k (cs.take (j + 1)) (vs.take (j + 1)) = attrsG k (cs.take j) (vs.take j) ++ (if (c.enc v).size = 0 then [] else [⟨k + j,c.enc v⟩])
 | [],_,_,j,_,_,h,_ => by simp at h
 | _ :: _,[],_,j,_,_,_,h => by simp at h
 | c :: cs,v :: vs,k,0,d,u,h1,h2 => by
   injection h1 with h1; injection h2 with h2; subst h1 h2
   simp only [Nat.zero_add,List.take_succ_cons,List.take_zero,attrsG]
   split <;> simp
 | c :: cs,v :: vs,k,j + 1,d,u,h1,h2 => by
   have ih:=attrsG_take cs vs (k + 1) j d u h1 h2
   rw [List.take_succ_cons,List.take_succ_cons,List.take_succ_cons,List.take_succ_cons]
   simp only [attrsG]
   have e:k + 1 + j = k + (j + 1):=by omega
   split
   · rw [ih,e]
   · rw [ih,e,List.cons_append]
theorem okG_upto {β:Type} : ∀ (cs:List (Cod β)) (vs:List β) (j:Nat) (c:Cod β) (v:β),cs[j]? = some c → vs[j]? = some v →
 (okG (cs.take (j + 1)) (vs.take (j + 1)) ↔ okG (cs.take j) (vs.take j) ∧ c.ok v)
 | [],_,j,_,_,h,_ => by simp at h
 | _ :: _,[],j,_,_,_,h => by simp at h
 | c :: cs,v :: vs,0,d,u,h1,h2 => by
   injection h1 with h1; injection h2 with h2; subst h1 h2
   simp [okG]
 | c :: cs,v :: vs,j + 1,d,u,h1,h2 => by
   have ih:=okG_upto cs vs j d u h1 h2
   rw [List.take_succ_cons,List.take_succ_cons,List.take_succ_cons,List.take_succ_cons]
   simp only [okG]
   rw [ih,and_assoc]
theorem partC_at {k i:Nat} (hi:i < 17) (v:PartN):∃ c,(csM topD k)[i]? = some c ∧ ((i + 1) ∈ hasL k → c = partC topD i) ∧ (¬ (i + 1) ∈ hasL k → c = noneP (partC topD i)):=by
 refine ⟨_,csM_at topD k i hi,fun h => by rw [if_pos h],fun h => by rw [if_neg h]⟩
theorem okG_one {k i:Nat} {ps:List PartN} (h:okG (csM topD k) ps) {c:Cod PartN} {v:PartN} (hc:(csM topD k)[i]? = some c) (hv:ps[i]? = some v):c.ok v:=okG_at _ _ i c v h hc hv
theorem put_part {k i:Nat} {c:Cod PartN} {v:PartN} (h1:(i + 1) ∈ hasL k → c = partC topD i) (h2:¬ (i + 1) ∈ hasL k → c = noneP (partC topD i)) {T:ByteArray} {r:Nat} (hr:PutC (partC topD i) v T r) :
 (r = 3 ∧ ¬ c.ok v) ∨ (r = 0 ∧ T = ⟨#[]⟩ ∧ c.ok v ∧ (c.enc v).size = 0) ∨ (r = 0 ∧ T.size ≠ 0 ∧ ¬ (i + 1) ∈ hasL k ∧ ¬ c.ok v) ∨ (r = 0 ∧ T.size ≠ 0 ∧ (i + 1) ∈ hasL k ∧ c.ok v ∧ c.enc v = T):=by
 rcases hr with ⟨ok,e,e3⟩ | ⟨nok,_,e3⟩
 · by_cases z:T.size = 0
   · have hz:=(partC topD i).zero_of ok (by rw [← e]; exact z)
     refine .inr (.inl ⟨e3,empty_of T z,?_,?_⟩)
     · by_cases m:(i + 1) ∈ hasL k
       · rw [h1 m]; exact ok
       · rw [h2 m]; exact hz
     · by_cases m:(i + 1) ∈ hasL k
       · rw [h1 m,← e]; exact z
       · rw [h2 m]; rfl
   · by_cases m:(i + 1) ∈ hasL k
     · exact .inr (.inr (.inr ⟨e3,z,m,by rw [h1 m]; exact ok,by rw [h1 m]; exact e.symm⟩))
     · refine .inr (.inr (.inl ⟨e3,z,m,fun q => z ?_⟩))
       rw [h2 m] at q
       have q2:v = (partC topD i).zero:=q
       rw [e,q2,(partC topD i).enc_zero]; rfl
 · refine .inl ⟨e3,fun q => nok ?_⟩
   by_cases m:(i + 1) ∈ hasL k
   · rw [h1 m] at q; exact q
   · rw [h2 m] at q
     have q2:v = (partC topD i).zero:=q
     rw [q2]; exact (partC topD i).ok_zero
theorem put_some (i:Nat) (v:PartN):∃ T r,PutC (partC topD i) v T r:=by
 by_cases c:(partC topD i).ok v
 · exact ⟨_,0,.inl ⟨c,rfl,rfl⟩⟩
 · exact ⟨_,3,.inr ⟨c,rfl,rfl⟩⟩
theorem upto_next {k j:Nat} {ps:List PartN} (hp:ps.length = 17) (hj:j < 17):∃ (c:Cod PartN) (v:PartN),(csM topD k)[j]? = some c ∧ ps[j]? = some v ∧ ((j + 1) ∈ hasL k → c = partC topD j) ∧ (¬ (j + 1) ∈ hasL k → c = noneP (partC topD j)):=by
 obtain ⟨c,h1,h2,h3⟩:=partC_at (k:=k) hj (.one (.num 0))
 exact ⟨c,ps[j]'(by omega),h1,List.getElem?_eq_getElem _,h2,h3⟩
def attU (k:Nat) (ps:List PartN) (j:Nat):List AtN:=attrsG 1 ((csM topD k).take j) (ps.take j)
theorem attU_len (k:Nat) (ps:List PartN) (j:Nat):(attU k ps j).length ≤ j:=by
 have h:∀ (cs:List (Cod PartN)) (vs:List PartN) (m:Nat),(attrsG m cs vs).length ≤ cs.length:=by
  intro cs
  induction cs with
  | nil => intro vs m; simp [attrsG]
  | cons c cs ih =>
    intro vs m
    cases vs with
    | nil => simp [attrsG]
    | cons v vs =>
      have:=ih vs (m + 1)
      simp only [attrsG]
      split
      · simp; omega
      · simp; omega
 exact Nat.le_trans (h _ _ _) (by rw [List.length_take]; omega)
theorem attrs_c (w:World) {M:Array Value} {d:MsgD} (R:RepD w M d) (HK:KindsAt w) (k:Nat) (hk:k < 256) (hkd:d.kind = (k:Int)) {r:Nat} (hr:(MayM k d.ps ∧ r = 0) ∨ (¬ MayM k d.ps ∧ r = 3)) :
 Calls Tryz.prog 35 #[.agg M] w fun e w' => ∃ v,e = .returned (.tuple #[v,.int .i64 (r:Int)]) ∧ Wider w w' ∧ (r = 0 → w'.ownsRow w.heap.size 89 2 v (attrsG 1 (csM topD k) d.ps).length (cellsA (attrsG 1 (csM topD k) d.ps))):=by
 have sM:=R.size
 have H00:=(Own.nil (Wider.refl w)).blk M 51
 have g:=H00.wider
 have hA:=heap_alloc_new w (.cells M 51)
 obtain ⟨W,hW⟩ : ∃ W,w.alloc (.cells M 51) = W:=⟨_,rfl⟩
 obtain ⟨B,hB⟩ : ∃ B,w.heap.size = B:=⟨_,rfl⟩
 rw [hW] at g hA H00
 rw [hB] at hA H00
 have hc0:=blk_cell hA 0 R.c0
 rw [hkd] at hc0
 have zk:=known_c W k hk (r:=decide (1 ≤ k ∧ k ≤ 46)) rfl
 by_cases ck:1 ≤ k ∧ k ≤ 46
 · rw [decide_eq_true ck] at zk
   obtain ⟨i0,hi,hz0,hz1,hz2⟩:=info_parts infoTlv
   have HR:=Lib.hid hr
   have HM:=Lib.hid R
   have HH:=Lib.hid HK
   have H0:Own w W [blkT B M 51,rowT 89 2 (.slice none 0 0) 0 []]:=H00.nils 89 2
   clear hr R HK H00
   go_enter Tryz.func35,Tryz.ntmps35
   go_upto_region 1 with (fail)
   clear hW
   go_upto_region 4 with (first
    | (with_reducible refine wpList_field rfl 51 (.tmp 1) 0 rfl B 0 0 rfl (fieldM0 _) ?_)
    | (go_at_call 12; (with_reducible refine zk.mono ?_); rintro e wN ⟨rfl,gN⟩; have H1:=H0.quiet gN))
   clear zk hc0
   go_wp2
   go_loopw [4,5] (fun v i wr => ∃ j:Nat,j ≤ 17 ∧ i = .int .u8 ((j:Int) + 1) ∧ okG ((csM topD k).take j) (d.ps.take j) ∧ ∃ A c,v = .slice A (attU k d.ps j).length c ∧ Own w wr [blkT B M 51,rowT 89 2 (.slice A (attU k d.ps j).length c) (attU k d.ps j).length (cellsA (attU k d.ps j))]) (fun _ i _ => 18 - (intOf i).toNat)
   case atStart => exact ⟨0,by omega,by simp,trivial,none,0,rfl,H1⟩
   case round =>
    obtain ⟨j,hj,rfl,hok,A,c,rfl,H⟩:=hrel
    by_cases cj:j < 17
    · have j1:(j:Int) + 1 ≤ 17:=by omega
      have hM:=H.head
      obtain ⟨cd,v,hc,hv,m1,m2⟩:=upto_next (k:=k) (ps:=d.ps) rfl cj
      obtain ⟨S,r2,hp⟩:=put_some j v
      have zp:=pput_c wr (HM.out.on H.wider) j hv hp
      have hkind:=blk_cell hM 0 HM.out.c0
      rw [hkd] at hkind
      have hA2:attU k d.ps (j + 1) = _:=attrsG_take (csM topD k) d.ps 1 j cd v hc hv
      have ho2:=okG_upto (csM topD k) d.ps j cd v hc hv
      have bad:¬ cd.ok v → r = 3:=fun no => by
       rcases HR.out with ⟨q,_⟩ | ⟨_,q⟩
       · exact absurd (okG_one q.2 hc hv) no
       · exact q
      have HW:=Lib.hid H
      have HO:=Lib.hid hok
      have HP:=Lib.hid (put_part m1 m2 hp)
      have HA2:=Lib.hid hA2
      have HO2:=Lib.hid ho2
      have HB:=Lib.hid bad
      clear m1 m2 hp hc hv hA2 ho2 bad H hok
      rcases HP.out with ⟨rfl,no⟩ | ⟨rfl,rfl,ok,ez⟩ | ⟨rfl,nz,nm,no⟩ | ⟨rfl,nz,mm,ok,ee⟩
      · obtain rfl:=HB.out no
        clear no HP HB HO2 HO HA2
        go_wp2_with (first
         | (with_reducible refine wpList_load_row rfl 51 (.tmp 1) rfl B rfl 51 M (0,0) _ hM Tryz.underlying51 rfl (by rw [sM]; kernel_rfl) ?_)
         | (go_at_call 74; (with_reducible refine zp.mono ?_); rintro e w2 ⟨rfl,g2⟩))
        go_ret2
        exact ⟨_,rfl,HW.out.wider.trans g2,fun q => by cases q⟩
      · have ea:attU k d.ps (j + 1) = attU k d.ps j:=by rw [HA2.out,if_pos ez,List.append_nil]; rfl
        have HK2:=Lib.hid ok
        clear ok ez HP HB HA2
        go_wp2_with (first
         | (with_reducible refine wpList_load_row rfl 51 (.tmp 1) rfl B rfl 51 M (0,0) _ hM Tryz.underlying51 rfl (by rw [sM]; kernel_rfl) ?_)
         | (go_at_call 74; (with_reducible refine zp.mono ?_); rintro e w2 ⟨rfl,g2⟩))
        go_roundw
        case rel => exact ⟨j + 1,by omega,by go_num,HO2.out.2 ⟨HO.out,HK2.out⟩,A,c,by rw [ea],by rw [ea]; exact HW.out.quiet g2⟩
        case measure => simp [intOf]; omega
      · obtain rfl:=HB.out no
        obtain ⟨n1,n2⟩:=ne_empty S nz
        have zh:∀ W2,Wider w W2 → Calls Tryz.prog 34 #[.int .u8 (k:Int),.int .u8 ((j:Int) + 1)] W2 fun e w' => e = .returned (.bool false) ∧ w' = W2:=fun W2 g2 => by
         have q:=has_c W2 k (j + 1) hk (by omega) (HH.out.on g2) (r:=false) (decide_eq_false nm).symm
         rw [show ((j + 1:Nat):Int) = (j:Int) + 1 by omega] at q
         exact q
        clear no nm HP HB HO2 HO HA2 nz
        go_wp2_with (first
         | (with_reducible refine wpList_load_row rfl 51 (.tmp 1) rfl B rfl 51 M (0,0) _ hM Tryz.underlying51 rfl (by rw [sM]; kernel_rfl) ?_)
         | (go_at_call 74; (with_reducible refine zp.mono ?_); rintro e w2 ⟨rfl,g2⟩; have hM2:=wide_blk hM g2; have hk2:=blk_cell hM2 0 HM.out.c0; rw [hkd] at hk2; have zh2:=zh w2 (HW.out.wider.trans g2))
         | (with_reducible refine wpList_field rfl 51 (.tmp 1) 0 rfl B 0 0 rfl (fieldM0 _) ?_)
         | (go_at_call 34; (with_reducible refine zh2.mono ?_); rintro e w3 ⟨rfl,q3⟩; obtain rfl:=q3.symm))
        go_ret2
        exact ⟨_,rfl,HW.out.wider.trans g2,fun q => by cases q⟩
      · obtain ⟨n1,n2⟩:=ne_empty S nz
        have zh:∀ W2,Wider w W2 → Calls Tryz.prog 34 #[.int .u8 (k:Int),.int .u8 ((j:Int) + 1)] W2 fun e w' => e = .returned (.bool true) ∧ w' = W2:=fun W2 g2 => by
         have q:=has_c W2 k (j + 1) hk (by omega) (HH.out.on g2) (r:=true) (decide_eq_true mm).symm
         rw [show ((j + 1:Nat):Int) = (j:Int) + 1 by omega] at q
         exact q
        have ea:attU k d.ps (j + 1) = attU k d.ps j ++ [⟨1 + j,S⟩]:=by rw [HA2.out,ee,if_neg nz]; rfl
        obtain ⟨n,hn⟩ : ∃ n,(attU k d.ps j).length = n:=⟨_,rfl⟩
        have hn2:=attU_len k d.ps j
        rw [hn] at hn2
        have SN:Hid (cellsA (attU k d.ps j) ++ [.int .u8 ((j:Int) + 1),.string S] = cellsA (attU k d.ps (j + 1))):=by show _ = _; rw [ea,cellsA_snoc]; show _ ++ [_,_] = _ ++ [Value.int .u8 ((1 + j:Nat):Int),_]; rw [show ((1 + j:Nat):Int) = (j:Int) + 1 by omega]
        have ML:Hid ((attU k d.ps (j + 1)).length = n + 1):=by show _ = _; rw [ea,List.length_append,hn]; rfl
        have S3:Hid (n + 1 ≤ maxLen):=by show _ ≤ maxLen; unfold maxLen; omega
        have S4:Hid ((n + 1) * 24 ≤ 140737488355328):=by show _ ≤ _; omega
        have HK2:=Lib.hid ok
        rw [hn] at HW ⊢
        clear mm ok ee HP HB HA2 ea nz hn hn2
        go_wp2_with (first
         | (with_reducible refine wpList_load_row rfl 51 (.tmp 1) rfl B rfl 51 M (0,0) _ hM Tryz.underlying51 rfl (by rw [sM]; kernel_rfl) ?_)
         | (go_at_call 74; (with_reducible refine zp.mono ?_); rintro e w2 ⟨rfl,g2⟩; have hM2:=wide_blk hM g2; have hk2:=blk_cell hM2 0 HM.out.c0; rw [hkd] at hk2; have zh2:=zh w2 (HW.out.wider.trans g2); have H2:=((HW.out.quiet g2).quiet ((Wider.refl w2).alloc (.cells #[.int .u8 ((j:Int) + 1),.string S] 89))).swap; have SIDE:=lies2 w2 (.int .u8 ((j:Int) + 1)) (.string S) 89 rfl rfl; have H4:=Lib.hid H2; have SD:=Lib.hid SIDE; clear H2 SIDE)
         | (with_reducible refine wpList_field rfl 51 (.tmp 1) 0 rfl B 0 0 rfl (fieldM0 _) ?_)
         | (go_at_call 34; (with_reducible refine zh2.mono ?_); rintro e w3 ⟨rfl,q3⟩; obtain rfl:=q3.symm)
         | (at_builtin; refine wpList_append_thing rfl (.tmp 35) (.tmp 39) 82 rfl 89 i0 (.agg #[.int .u8 0,.string ⟨#[]⟩]) 2 24 Tryz.underlying82 hi hz0 hz1 hz2 rfl (by decide) (.slice A n c) n (cellsA (attU k d.ps j)) rfl H4.out (some ⟨w2.heap.size,0,none⟩) 1 1 [.int .u8 ((j:Int) + 1),.string S] rfl rfl (fun e => by cases e) (fun a e => by cases e; exact SD.out.1) SD.out.2 S3.out S4.out rfl SN.out ?_; intro B2 c2 w5 H5))
        go_roundw
        case rel => exact ⟨j + 1,by omega,by go_num,HO2.out.2 ⟨HO.out,HK2.out⟩,B2,c2,by rw [ML.out],by rw [ML.out]; exact H5.swap⟩
        case measure => simp [intOf]; omega
    · obtain rfl:j = 17:=by omega
      have j1:¬ (18:Int) ≤ 17:=by omega
      have e1:(csM topD k).take 17 = csM topD k:=List.take_of_length_le (by rw [csM_length]; exact Nat.le_refl _)
      have e2:d.ps.take 17 = d.ps:=List.take_of_length_le (by rw [ps_length]; exact Nat.le_refl _)
      have eU:attU k d.ps 17 = attrsG 1 (csM topD k) d.ps:=by unfold attU; rw [e1,e2]
      rw [e1,e2] at hok
      obtain rfl:r = 0:=by
       rcases HR.out with ⟨_,q⟩ | ⟨q,_⟩
       · exact q
       · exact absurd ⟨ck,hok⟩ q
      have HW:=Lib.hid H
      clear H hok cj HR
      go_wp2
      go_ret2
      have q:=own_base HW.out.swap
      rw [eU,hB] at q
      exact ⟨_,rfl,HW.out.wider,q⟩
 · rw [decide_eq_false ck] at zk
   obtain rfl:r = 3:=by
    rcases hr with ⟨q,_⟩ | ⟨_,q⟩
    · exact absurd q.1 ck
    · exact q
   clear hr HK H00
   go_enter Tryz.func35,Tryz.ntmps35
   go_upto_region 1 with (fail)
   clear hW
   go_wp2_with (first
    | (with_reducible refine wpList_field rfl 51 (.tmp 1) 0 rfl B 0 0 rfl (fieldM0 _) ?_)
    | (go_at_call 12; (with_reducible refine zk.mono ?_); rintro e wN ⟨rfl,gN⟩))
   go_ret2
   exact ⟨_,rfl,g.trans gN,fun q => by cases q⟩
theorem pmay_c (w:World) {M:Array Value} {d:MsgD} (R:RepD w M d) (HK:KindsAt w) (k:Nat) (hk:k < 256) (hkd:d.kind = (k:Int)) {b:Bool} (hb:b = true ↔ MayM k d.ps) :
 Calls Tryz.prog 18 #[.agg M] w fun e w' => e = .returned (.bool b) ∧ Wider w w':=by
 obtain ⟨r,hr,hb2⟩ : ∃ r:Nat,((MayM k d.ps ∧ r = 0) ∨ (¬ MayM k d.ps ∧ r = 3)) ∧ (((r:Int) == 0) = b):=by
  cases b with
  | true => exact ⟨0,.inl ⟨hb.1 rfl,rfl⟩,rfl⟩
  | false => exact ⟨3,.inr ⟨fun q => absurd (hb.2 q) Bool.false_ne_true,rfl⟩,rfl⟩
 have sM:=R.size
 have g:=(Wider.refl w).alloc (.cells M 51)
 have hA:=heap_alloc_new w (.cells M 51)
 obtain ⟨W,hW⟩ : ∃ W,w.alloc (.cells M 51) = W:=⟨_,rfl⟩
 obtain ⟨B,hB⟩ : ∃ B,w.heap.size = B:=⟨_,rfl⟩
 rw [hW] at g hA
 rw [hB] at hA
 have za:=attrs_c W (R.on g) (HK.on g) k hk hkd hr
 have HK2:=Lib.hid HK
 clear hb hr HK
 go_enter Tryz.func18,Tryz.ntmps18
 go_upto_region 1 with (fail)
 clear hW
 go_wp2_with (first
  | (with_reducible refine wpList_load_row rfl 51 (.tmp 1) rfl B rfl 51 M (0,0) _ hA Tryz.underlying51 rfl (by rw [sM]; kernel_rfl) ?_)
  | (go_at_call 35; (refine za.mono ?_); rintro e wN ⟨v,rfl,gN,_⟩))
 go_ret
 exact ⟨rfl,g.trans gN⟩
theorem putHead_c (w:World) {M:Array Value} {d:MsgD} (R:RepD w M d) (k x:Nat) (hk:k < 256) (hx:x < 4294967296) (hkd:d.kind = (k:Int)) (hxd:d.xid = (x:Int)) {S:ByteArray} (hS:S = mkB (headB k x)) :
 Calls Tryz.prog 37 #[.agg M] w fun e w' => e = .returned (.string S) ∧ Wider w w' :=
 putHead_h w R.size k x hk hx (by rw [← hkd]; exact R.c0) (by rw [← hxd]; exact R.c1) hS
theorem okA_any {β:Type} : ∀ (cs:List (Cod β)) (vs:List β) (k last:Nat),last < k → okA last (attrsG k cs vs) = 0 ∨ (okA last (attrsG k cs vs) = 5 ∧ 65535 < (bytsA (attrsG k cs vs)).length)
 | [],[],_,_,_ => .inl rfl
 | [],_ :: _,_,_,_ => .inl rfl
 | _ :: _,[],_,_,_ => .inl rfl
 | c :: cs,v :: vs,k,last,h => by
   unfold attrsG
   split
   · exact okA_any cs vs (k + 1) last (by omega)
   · rename_i n0
     unfold okA
     rw [if_neg (fun q => Or.elim q (fun q => by have q2:k ≤ last:=q; omega) (fun q => n0 q))]
     split
     · rename_i q
       refine .inr ⟨rfl,?_⟩
       rw [bytsA_cons,List.length_append,bytA_length]
       have q2:65535 < (c.enc v).size:=q
       show 65535 < 3 + (c.enc v).size + _
       omega
     · rcases okA_any cs vs (k + 1) k (by omega) with q | ⟨q,q2⟩
       · exact .inl q
       · exact .inr ⟨q,by rw [bytsA_cons,List.length_append]; omega⟩
theorem attrs_mem_size {l:List AtN} {a:AtN} (h:a ∈ l):a.v.size ≤ (bytsA l).length:=by
 induction l with
 | nil => cases h
 | cons b l ih =>
   rw [bytsA_cons,List.length_append,bytA_length]
   rcases List.mem_cons.1 h with rfl | h
   · omega
   · have:=ih h; omega
theorem pencode_c (w:World) {M:Array Value} {d:MsgD} (R:RepD w M d) (HK:KindsAt w) (k x:Nat) (hk:k < 256) (hx:x < 4294967296) (hkd:d.kind = (k:Int)) (hxd:d.xid = (x:Int)) (hb0:MayM k d.ps → (bytsA (attrsG 1 (csM topD k) d.ps)).length < 1000000) {T:ByteArray} {r:Nat} (hr:EncM k x d.ps T r) :
 Calls Tryz.prog 16 #[.agg M] w fun e w' => e = .returned (.tuple #[.string T,.int .i64 (r:Int)]) ∧ Wider w w':=by
 have sM:=R.size
 have g:=(Wider.refl w).alloc (.cells M 51)
 have hA:=heap_alloc_new w (.cells M 51)
 obtain ⟨W,hW⟩ : ∃ W,w.alloc (.cells M 51) = W:=⟨_,rfl⟩
 obtain ⟨B,hB⟩ : ∃ B,w.heap.size = B:=⟨_,rfl⟩
 rw [hW] at g hA
 rw [hB] at hA
 by_cases hm:MayM k d.ps
 · have hb:=hb0 hm
   clear hb0
   have za:=attrs_c W (R.on g) (HK.on g) k hk hkd (r:=0) (.inl ⟨hm,rfl⟩)
   obtain ⟨l,hl⟩ : ∃ l,attrsG 1 (csM topD k) d.ps = l:=⟨_,rfl⟩
   rw [hl] at za hb
   have ht:∀ y ∈ l,y.t < 256:=fun y hy => by
    have:=attrsG_t (csM topD k) d.ps 1 y (by rw [hl]; exact hy)
    rw [csM_length] at this
    omega
   have hv:∀ y ∈ l,y.v.size < 1000000:=fun y hy => by have:=attrs_mem_size hy; omega
   have ln:l.length < 1000000:=by
    have:=attU_len k d.ps 17
    have e1:(csM topD k).take 17 = csM topD k:=List.take_of_length_le (by rw [csM_length]; exact Nat.le_refl _)
    have e2:d.ps.take 17 = d.ps:=List.take_of_length_le (by rw [ps_length]; exact Nat.le_refl _)
    unfold attU at this
    rw [e1,e2,hl] at this
    omega
   have hbody:(bodyM k x d.ps).length = 5 + (bytsA l).length:=by unfold bodyM; rw [List.length_append,headB_length,hl]
   obtain ⟨n,hn⟩ : ∃ n,l.length = n:=⟨_,rfl⟩
   rw [hn] at za ln
   obtain ⟨r0,hr0⟩ : ∃ r0,okA 0 l = r0:=⟨_,rfl⟩
   obtain ⟨T0,hT0⟩ : ∃ T0,encA l = T0:=⟨_,rfl⟩
   have ze:=fun (A:Option Addr) (c:Nat) (w1:World) (h:AtsAt w1 A l) => tenc_a A n c l w1 h hn ln ht hb hv hT0 hr0
   have hok:=okA_any (csM topD k) d.ps 1 0 (by omega)
   rw [hl,hr0] at hok
   rcases hok with rfl | ⟨rfl,hbig⟩
   · have hT1:T0 = mkB (bytsA l):=by rw [← hT0]; unfold encA; rw [if_pos hr0]
     have hTs:T0.size = (bytsA l).length:=by rw [hT1,mkB_size]
     by_cases hlen:(bodyM k x d.ps).length ≤ 16384
     · obtain ⟨rfl,rfl⟩ : T = mkB (bodyM k x d.ps) ∧ r = 0:=by
        rcases hr with ⟨_,_,h1,h2⟩ | ⟨_,h,_⟩ | ⟨h,_⟩
        · exact ⟨h1,h2⟩
        · omega
        · exact absurd hm h
       obtain ⟨S,hS⟩ : ∃ S,S = mkB (headB k x):=⟨_,rfl⟩
       have zp:=fun (w1:World) (h:RepD w1 M d) => putHead_c w1 h k x hk hx hkd hxd hS
       have hSs:S.size = 5:=by rw [hS,mkB_size]; rfl
       have FIN:Hid (S ++ T0 = mkB (bodyM k x d.ps)):=by show _ = _; rw [hS,hT1,mkB_append]; unfold bodyM; rw [hl]
       have t1:(5:Int) + (T0.size:Int) ≤ 16384:=by omega
       have t2:decide ((16384:Int) < 5 + (T0.size:Int)) = false:=decide_eq_false (by omega)
       have HR:=Lib.hid (R.on g)
       have HN:=Lib.hid hn
       have GW:=Lib.hid g
       have tz:T0.size ≤ 16384:=by omega
       clear hr hT0 hr0 hT1 hTs hS hbody hl hn R hlen hm ht hv hb hkd hxd HK
       go_enter Tryz.func16,Tryz.ntmps16
       go_upto_region 1 with (fail)
       clear hW
       go_wp2_with (first
        | (with_reducible refine wpList_load_row rfl 51 (.tmp 1) rfl B rfl 51 M (0,0) _ hA Tryz.underlying51 rfl (by rw [sM]; kernel_rfl) ?_)
        | (go_at_call 35; (with_reducible refine za.mono ?_); rintro e w1 ⟨v,rfl,g1,ho⟩; obtain ⟨A1,c1,rfl,ha1,_⟩:=atsAt_own (ho rfl); clear ho)
        | (go_at_call 36; (with_reducible refine (ze _ _ _ ha1).mono ?_); rintro e w2 ⟨rfl,g2⟩; have hA2:=wide_blk hA (g1.trans g2))
        | (with_reducible refine wpList_load_row rfl 51 (.tmp 1) rfl B rfl 51 M (0,0) _ hA2 Tryz.underlying51 rfl (by rw [sM]; kernel_rfl) ?_)
        | (go_at_call 37; (with_reducible refine (zp _ (HR.out.on (g1.trans g2))).mono ?_); rintro e w3 ⟨rfl,g3⟩))
       go_ret2
       exact ⟨by rw [FIN.out]; rfl,GW.out.trans (g1.trans (g2.trans g3))⟩
     · obtain ⟨rfl,rfl⟩ : T = ⟨#[]⟩ ∧ r = 5:=by
        rcases hr with ⟨_,h,_⟩ | ⟨_,_,h1,h2⟩ | ⟨h,_⟩
        · omega
        · exact ⟨h1,h2⟩
        · exact absurd hm h
       have t1:(16384:Int) < 5 + (T0.size:Int):=by omega
       have t2:decide ((16384:Int) < 5 + (T0.size:Int)) = true:=decide_eq_true t1
       have tz:T0.size < 1000000:=by omega
       have GW:=Lib.hid g
       clear hr hT0 hr0 hT1 hTs hbody hl hn R hlen hm ht hv hb hkd hxd HK
       go_enter Tryz.func16,Tryz.ntmps16
       go_upto_region 1 with (fail)
       clear hW
       go_wp2_with (first
        | (with_reducible refine wpList_load_row rfl 51 (.tmp 1) rfl B rfl 51 M (0,0) _ hA Tryz.underlying51 rfl (by rw [sM]; kernel_rfl) ?_)
        | (go_at_call 35; (with_reducible refine za.mono ?_); rintro e w1 ⟨v,rfl,g1,ho⟩; obtain ⟨A1,c1,rfl,ha1,_⟩:=atsAt_own (ho rfl); clear ho)
        | (go_at_call 36; (with_reducible refine (ze _ _ _ ha1).mono ?_); rintro e w2 ⟨rfl,g2⟩))
       go_ret2
       exact ⟨rfl,GW.out.trans (g1.trans g2)⟩
   · obtain ⟨rfl,rfl⟩ : T = ⟨#[]⟩ ∧ r = 5:=by
      rcases hr with ⟨_,h,_⟩ | ⟨_,_,h1,h2⟩ | ⟨h,_⟩
      · omega
      · exact ⟨h1,h2⟩
      · exact absurd hm h
     have GW:=Lib.hid g
     clear hr hT0 hr0 hbody hl hn R hm ht hv hb hkd hxd HK hbig
     go_enter Tryz.func16,Tryz.ntmps16
     go_upto_region 1 with (fail)
     clear hW
     go_wp2_with (first
      | (with_reducible refine wpList_load_row rfl 51 (.tmp 1) rfl B rfl 51 M (0,0) _ hA Tryz.underlying51 rfl (by rw [sM]; kernel_rfl) ?_)
      | (go_at_call 35; (with_reducible refine za.mono ?_); rintro e w1 ⟨v,rfl,g1,ho⟩; obtain ⟨A1,c1,rfl,ha1,_⟩:=atsAt_own (ho rfl); clear ho)
      | (go_at_call 36; (with_reducible refine (ze _ _ _ ha1).mono ?_); rintro e w2 ⟨rfl,g2⟩))
     go_ret2
     exact ⟨rfl,GW.out.trans (g1.trans g2)⟩
 · obtain ⟨rfl,rfl⟩ : T = ⟨#[]⟩ ∧ r = 3:=by
    rcases hr with ⟨h,_⟩ | ⟨h,_⟩ | ⟨_,h⟩
    · exact absurd h hm
    · exact absurd h hm
    · exact h
   have za:=attrs_c W (R.on g) (HK.on g) k hk hkd (r:=3) (.inr ⟨hm,rfl⟩)
   have GW:=Lib.hid g
   clear hr R hm hb0 hkd hxd HK
   go_enter Tryz.func16,Tryz.ntmps16
   go_upto_region 1 with (fail)
   clear hW
   go_wp2_with (first
    | (with_reducible refine wpList_load_row rfl 51 (.tmp 1) rfl B rfl 51 M (0,0) _ hA Tryz.underlying51 rfl (by rw [sM]; kernel_rfl) ?_)
    | (go_at_call 35; (with_reducible refine za.mono ?_); rintro e w1 ⟨v,rfl,g1,_⟩))
   go_ret2
   exact ⟨rfl,GW.out.trans g1⟩
theorem numbers_c (W:World) (A B:Option Addr) (n cap m cap2:Nat) (l l2:List (List Value)) (hA:RowAt W A 1 l) (hB:RowAt W B 1 l2) (hn:l.length = n) (hm:l2.length = m) (hn9:n < 1000000) (hm9:m < 1000000) (hs:∀ x ∈ l,(∃ v0:Int,x = [.int .u64 v0])) (hs2:∀ x ∈ l2,(∃ v0:Int,x = [.int .u64 v0])) {r:Bool} (hr:l = l2 ↔ r = true) :
 Calls Tryz.prog 43 #[.slice A n cap,.slice B m cap2] W fun e w' => e = .returned (.bool r) ∧ Wider W w':=by
 by_cases hl0:n = m
 · subst hl0
   have d0:((n:Int) != (n:Int)) = false:=bne_self_eq_false _
   have HN:=Lib.hid hn
   have HM:=Lib.hid hm
   have HS:=Lib.hid hs
   have HS2:=Lib.hid hs2
   have HR:=Lib.hid hr
   clear hs hs2 hn hm hr
   go_enter Tryz.func43,Tryz.ntmps43
   go_wp2
   go_loopw [5] (fun i wr => ∃ j:Nat,j ≤ n ∧ i = .int .i64 (j:Int) ∧ l.take j = l2.take j ∧ ∃ q:Nat,wr = World.drewN W q) (fun i _ => n - (intOf i).toNat)
   case atStart => exact ⟨0,by omega,by simp,rfl,0,rfl⟩
   case round =>
    obtain ⟨j,hj,rfl,hjt,q,rfl⟩:=hrel
    have hA2:=hA
    have hB2:=hB
    have HJ:=Lib.hid hjt
    clear hjt
    by_cases c:j < n
    · have j0:(0:Int) ≤ (j:Int):=by omega
      have j1:(j:Int) < (n:Int):=by omega
      obtain ⟨x,hx⟩ : ∃ x,l[j]? = some x:=⟨l[j]'(by have:=HN.out; omega),List.getElem?_eq_getElem _⟩
      obtain ⟨y,hy⟩ : ∃ y,l2[j]? = some y:=⟨l2[j]'(by have:=HM.out; omega),List.getElem?_eq_getElem _⟩
      cases A with
      | none => exact absurd (hA.none_ rfl) (by intro e; rw [e] at hx; simp at hx)
      | some A0 =>
        cases B with
        | none => exact absurd (hB.none_ rfl) (by intro e; rw [e] at hy; simp at hy)
        | some B0 =>
          obtain ⟨x0,rfl⟩:=HS.out x (List.mem_of_getElem? hx)
          obtain ⟨y0,rfl⟩:=HS2.out y (List.mem_of_getElem? hy)
          have kx:=row_cell hA2 hx
          have ky:=row_cell hB2 hy
          have cx0:=kx.1 _ rfl
          have cy0:=ky.1 _ rfl
          rw [Nat.mul_one] at cx0 cy0
          have HX:=Lib.hid hx
          have HY:=Lib.hid hy
          clear kx ky hx hy hA2 hB2
          by_cases z0:x0 = y0
          · subst z0
            have g0:(x0 != x0) = false:=bne_self_eq_false _
            go_wp2
            go_quiet (fail)
            go_wp2
            go_roundw
            case rel => exact ⟨j + 1,by omega,by go_num,take_one HJ.out HX.out HY.out,_,rfl⟩
            case measure => simp [intOf]; omega
          · have g0:(x0 != y0) = true:=by rw [bne_iff_ne]; exact z0
            obtain rfl:r = false:=by
             cases r with
             | false => rfl
             | true =>
               have h:=HR.out.2 rfl
               have h1:=HX.out
               rw [h,HY.out] at h1
               simp at h1
               exact absurd h1.symm z0
            clear z0
            go_wp2
            go_quiet (fail)
            go_wp2
            go_ret
            exact ⟨rfl,((Wider.refl W).drewN q).drewN nq⟩
    · have hl:l = l2:=by
       have h:=HJ.out
       rw [List.take_of_length_le (by have:=HN.out; omega),List.take_of_length_le (by have:=HM.out; omega)] at h
       exact h
      obtain rfl:r = true:=HR.out.1 hl
      have i1:¬ (j:Int) < (n:Int):=by omega
      clear HR hl
      go_wp2
      go_ret
      exact ⟨rfl,(Wider.refl W).drewN q⟩
 · have d0:((n:Int) != (m:Int)) = true:=by rw [bne_iff_ne]; omega
   obtain rfl:r = false:=by
    cases r with
    | false => rfl
    | true => exact absurd (by rw [← hn,← hm,hr.2 rfl]) hl0
   clear hr
   go_enter Tryz.func43,Tryz.ntmps43
   go_wp2
   go_ret
   exact ⟨rfl,Wider.refl W⟩
end Go.Proofs.YtoopdhgmdjienaaGreatDoor
