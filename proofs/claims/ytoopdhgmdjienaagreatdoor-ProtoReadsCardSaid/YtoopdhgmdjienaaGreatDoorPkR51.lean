/- PEx PTHas OAwake PAwake PLaid HOpen SOpen -/
import Derived.Test.YtoopdhgmdjienaaGreatDoorPkR47
import Derived.Test.YtoopdhgmdjienaaGreatDoorTie
import Derived.LaidMore
import Derived.Deep.Frames
namespace Go.Proofs.YtoopdhgmdjienaaGreatDoor
set_option linter.unusedVariables false
set_option maxRecDepth 20000
open Go.ChangeShapes Go.WideShapes Go.ChangeAt Go.RowKit Go.Joins
open Go.ChangeMaps (open_string shut_string)
set_option maxHeartbeats 64000000
theorem decM_ok (k b1 b2 b3 b4:UInt8) (rest:List UInt8) (h1:1 ≤ k.toNat) (h2:k.toNat ≤ 46) (hl:rest.length ≤ 16000) {m:List AtN} {ps:List PartN} (hd:decA [] 0 rest = (m,0)) (hr:readG (csM 65535 k.toNat) zeroP m = some ps) :
 decM (k :: b1 :: b2 :: b3 :: b4 :: rest) = ((k.toNat,readB [b1,b2,b3,b4],ps),0):=by
 have e:decG (csM 65535 k.toNat) rest = (ps,0):=by unfold decG; rw [hd,zeroG_csM]; simp only [if_true]; rw [hr]
 have l:(k :: b1 :: b2 :: b3 :: b4 :: rest).length = rest.length + 5:=rfl
 unfold decM
 rw [if_neg (by omega),if_neg (by omega)]
 show (if k.toNat < 1 ∨ 46 < k.toNat then _ else _) = _
 rw [if_neg (by omega)]
 show (if (decG (csM 65535 k.toNat) rest).2 = 0 then _ else _) = _
 rw [e,if_pos rfl]
 show ((k.toNat,readB [b1,b2,b3,b4],(decG (csM 65535 k.toNat) rest).1),0) = _
 rw [e]
theorem decM_no (k b1 b2 b3 b4:UInt8) (rest:List UInt8) (h1:1 ≤ k.toNat) (h2:k.toNat ≤ 46) (hl:rest.length ≤ 16000) {m:List AtN} (hd:decA [] 0 rest = (m,0)) (hr:readG (csM 65535 k.toNat) zeroP m = none) :
 decM (k :: b1 :: b2 :: b3 :: b4 :: rest) = ((0,0,zeroP),3):=by
 have e:decG (csM 65535 k.toNat) rest = (zeroP,3):=by unfold decG; rw [hd,zeroG_csM]; simp only [if_true]; rw [hr]
 have l:(k :: b1 :: b2 :: b3 :: b4 :: rest).length = rest.length + 5:=rfl
 unfold decM
 rw [if_neg (by omega),if_neg (by omega)]
 show (if k.toNat < 1 ∨ 46 < k.toNat then _ else _) = _
 rw [if_neg (by omega)]
 show (if (decG (csM 65535 k.toNat) rest).2 = 0 then _ else _) = _
 rw [e,if_neg (by decide)]
 show ((0,0,zeroP),(decG (csM 65535 k.toNat) rest).2) = _
 rw [e]
theorem ex1:MayM 1 zeroP ∧ bodyM 1 258 zeroP = [1,0,0,1,2]:=by
 have q:decM [1,0,0,1,2] = ((1,258,zeroP),0):=decM_ok 1 0 0 1 2 [] (by decide) (by decide) (by decide) (decA_nil [] 0) rfl
 exact ⟨(decM_inv q).1,(decM_inv q).2.2.1⟩
theorem ex4:MayM 13 zeroP ∧ bodyM 13 9 zeroP = [13,0,0,0,9]:=by
 have q:decM [13,0,0,0,9] = ((13,9,zeroP),0):=decM_ok 13 0 0 0 9 [] (by decide) (by decide) (by decide) (decA_nil [] 0) rfl
 exact ⟨(decM_inv q).1,(decM_inv q).2.2.1⟩
def ps2:List PartN:=zeroP.set 2 (.one (.num 5))
theorem ex2:MayM 10 ps2 ∧ bodyM 10 1 ps2 = [10,0,0,0,1,3,0,1,5]:=by
 have d:decA [] 0 [3,0,1,5] = ([⟨3,mkB [5]⟩],0):=by
  rw [decA_some,if_neg (by decide),if_neg (by decide)]
  show decA [⟨3,mkB [5]⟩] 3 [] = _
  rw [decA_nil]
 have s:readG (csM 65535 10) zeroP [⟨3,mkB [5]⟩] = some ps2:=rfl
 have q:decM [10,0,0,0,1,3,0,1,5] = ((10,1,ps2),0):=decM_ok 10 0 0 0 1 [3,0,1,5] (by decide) (by decide) (by decide) d s
 exact ⟨(decM_inv q).1,(decM_inv q).2.2.1⟩
def ps3:List PartN:=(zeroP.set 0 (.one (.num 3))).set 8 (.one (.lst [[0],[1]]))
theorem ex3:MayM 32 ps3 ∧ bodyM 32 0 ps3 = [32,0,0,0,0,1,0,1,3,9,0,5,0,0,0,1,1]:=by
 have d:decA [] 0 [1,0,1,3,9,0,5,0,0,0,1,1] = ([⟨1,mkB [3]⟩,⟨9,mkB [0,0,0,1,1]⟩],0):=by
  rw [decA_some,if_neg (by decide),if_neg (by decide)]
  show decA [⟨1,mkB [3]⟩] 1 [9,0,5,0,0,0,1,1] = _
  rw [decA_some,if_neg (by decide),if_neg (by decide)]
  show decA [⟨1,mkB [3]⟩,⟨9,mkB [0,0,0,1,1]⟩] 9 [] = _
  rw [decA_nil]
 have dT:decT [] 128 [0,0,0,1,1] = ([mkB [],mkB [1]],0):=by
  rw [decT_some,if_neg (by decide),if_neg (by decide)]
  show decT [mkB []] 128 [0,1,1] = _
  rw [decT_some,if_neg (by decide),if_neg (by decide)]
  show decT [mkB [],mkB [1]] 128 [] = _
  rw [decT_nil]
 have s1:stepG (csM 65535 32) zeroP ⟨1,mkB [3]⟩ = some (zeroP.set 0 (.one (.num 3))):=rfl
 have s2:stepG (csM 65535 32) (zeroP.set 0 (.one (.num 3))) ⟨9,mkB [0,0,0,1,1]⟩ = some ps3:=by
  rw [stepM_yes (by decide) (by decide)]
  show ((if (decT [] 128 [0,0,0,1,1]).2 = 0 then (mapD cArg.dec (decT [] 128 [0,0,0,1,1]).1).map ValN.lst else none:Option ValN).map PartN.one).map _ = _
  rw [dT]; rfl
 have s:readG (csM 65535 32) zeroP [⟨1,mkB [3]⟩,⟨9,mkB [0,0,0,1,1]⟩] = some ps3:=by
  unfold readG; rw [s1]; dsimp only
  unfold readG; rw [s2]; rfl
 have q:decM [32,0,0,0,0,1,0,1,3,9,0,5,0,0,0,1,1] = ((32,0,ps3),0):=decM_ok 32 0 0 0 0 _ (by decide) (by decide) (by decide) d s
 exact ⟨(decM_inv q).1,(decM_inv q).2.2.1⟩
theorem ex5:decM [99,0,0,0,0] = ((0,0,zeroP),15):=by
 unfold decM
 rw [if_neg (by decide),if_neg (by decide)]
 dsimp only
 rw [if_pos (by decide)]
theorem ex6:decM [1,0,0,0,0,1,0,1,5] = ((0,0,zeroP),3):=by
 have d:decA [] 0 [1,0,1,5] = ([⟨1,mkB [5]⟩],0):=by
  rw [decA_some,if_neg (by decide),if_neg (by decide)]
  show decA [⟨1,mkB [5]⟩] 1 [] = _
  rw [decA_nil]
 exact decM_no 1 0 0 0 0 _ (by decide) (by decide) (by decide) d rfl
def exM2:Array Value:=(headM 10 1).setIfInBounds 4 (.int .i64 5)
theorem exM2_rep (w:World):∃ d,RepD w exM2 d ∧ d.kind = ((10:Nat):Int) ∧ d.xid = ((1:Nat):Int) ∧ d.ps = ps2 :=
 ⟨_,(headM_rep w 10 1 (by decide) (by decide)).set2 5 rfl,rfl,rfl,rfl⟩
def exM3 (v:Value):Array Value:=((headM 32 0).setIfInBounds 2 (.int .i64 3)).setIfInBounds 10 v
theorem exM3_rep (w:World) {v:Value} {A:Option Addr} {n cap:Nat} (h:RowW w v [[0],[1]] A n cap):∃ d,RepD w (exM3 v) d ∧ d.kind = ((32:Nat):Int) ∧ d.xid = ((0:Nat):Int) ∧ d.ps = ps3 :=
 ⟨_,((headM_rep w 32 0 (by decide) (by decide)).set0 3 rfl).set8 h,rfl,rfl,rfl⟩
def uptoT (k j:Nat):List Nat:=(List.range' 1 (j - 1)).filter fun t => decide (t ∈ hasL k)
theorem uptoT_next (k j:Nat) (hj:1 ≤ j):uptoT k (j + 1) = if j ∈ hasL k then uptoT k j ++ [j] else uptoT k j:=by
 unfold uptoT
 have e:j + 1 - 1 = (j - 1) + 1:=by omega
 rw [e,List.range'_1_concat,List.filter_append]
 have e2:1 + (j - 1) = j:=by omega
 rw [e2]
 by_cases c:j ∈ hasL k
 · simp [c]
 · simp [c]
theorem uptoT_all:((List.range 256).all fun k => uptoT k 18 == hasL k) = true:=by kernel_rfl
theorem uptoT_end {k:Nat} (hk:k < 256):uptoT k 18 = hasL k:=eq_of_beq (List.all_eq_true.1 uptoT_all k (List.mem_range.2 hk))
theorem uptoT_len (k j:Nat):(uptoT k j).length ≤ j:=Nat.le_trans (List.length_filter_le _ _) (by rw [List.length_range']; omega)
theorem thas_c (w:World) (k:Nat) (hk:k < 256) (HK:KindsAt w) :
 Calls Tryz.prog 13 #[.int .u8 (k:Int)] w fun e w' => ∃ v,e = .returned v ∧ Wider w w' ∧ w'.ownsRow w.heap.size 5 1 v (hasL k).length (cells8 (hasL k)):=by
 obtain ⟨i0,hi,hz0,hz1,hz2⟩:=infoN_parts
 have HH0:=Lib.hid HK
 clear HK
 go_enter Tryz.func13,Tryz.ntmps13
 go_wp2
 go_loopw [3,4] (fun v i wr => ∃ j:Nat,1 ≤ j ∧ j ≤ 18 ∧ i = .int .u8 (j:Int) ∧ Wider w wr ∧ wr.ownsRow w.heap.size 5 1 v (uptoT k j).length (cells8 (uptoT k j))) (fun _ i _ => 18 - (intOf i).toNat)
 case atStart => exact ⟨1,by omega,by omega,rfl,Wider.refl w,own8_none w _⟩
 case round =>
  obtain ⟨j,hj1,hj2,rfl,g,ho⟩:=hrel
  have HO:=Lib.hid ho
  have HG:=Lib.hid g
  by_cases c:j < 18
  · have j0:(j:Int) ≤ 17:=by omega
    obtain ⟨r,hr⟩ : ∃ r:Bool,r = decide (j ∈ hasL k):=⟨_,rfl⟩
    have zh:=has_c wr k j hk (by omega) (HH0.out.on g) hr
    have hl:=uptoT_len k j
    have S3:Hid ((uptoT k j).length + 1 ≤ maxLen):=by show _ ≤ maxLen; unfold maxLen; omega
    have S4:Hid (((uptoT k j).length + 1) * 1 ≤ 140737488355328):=by show _ ≤ _; omega
    have SIDE:=Lib.hid (lies1 wr (.int .u8 (j:Int)) 5 rfl)
    have S5:Hid (w.heap.size ≤ (wr.alloc (.cells #[.int .u8 (j:Int)] 5)).heap.size):=by show _ ≤ (wr.heap.push _).size; have:=g.2; simp; omega
    have HO1:=Lib.hid (ho.alloc (.cells #[.int .u8 (j:Int)] 5))
    have HR:=Lib.hid hr
    clear hr g ho hl
    cases r with
    | true =>
      have hm:j ∈ hasL k:=of_decide_eq_true HR.out.symm
      have e:=uptoT_next k j hj1
      rw [if_pos hm] at e
      have HE:=Lib.hid e
      clear e hm
      go_wp2_with (first
       | (go_at_call 34; (refine zh.mono ?_); rintro e wN ⟨rfl,q⟩; obtain rfl:=q.symm)
       | (at_builtin; refine wpList_append_own _ rfl (.tmp 12) (.tmp 14) 24 rfl w.heap.size 5 i0 (.int .u8 0) 1 1 Tryz.underlying24 hi hz0 hz1 hz2 rfl (by decide) _ _ _ rfl HO1.out ⟨wr.heap.size,0,none⟩ 1 1 [.int .u8 (j:Int)] rfl rfl SIDE.out.1 SIDE.out.2 S3.out S4.out S5.out ?_; intro v1 w1 hown1 hgrow1 _; have G1:=wider_appendA HG.out HO.out hgrow1; have HO2:=Lib.hid hown1; clear hown1 hgrow1))
      go_roundw
      case rel => exact ⟨j + 1,by omega,by omega,by go_num,G1,by
       have h:=HO2.out
       rw [HE.out,List.length_append]
       show World.ownsRow _ _ _ _ _ _ (cells8 (uptoT k j ++ [j]))
       rw [show cells8 (uptoT k j ++ [j]) = cells8 (uptoT k j) ++ [.int .u8 (j:Int)] by simp [cells8]]
       exact h⟩
      case measure => simp [intOf]; omega
    | false =>
      have hm:¬ j ∈ hasL k:=of_decide_eq_false HR.out.symm
      have e:=uptoT_next k j hj1
      rw [if_neg hm] at e
      have HE:=Lib.hid e
      clear e hm
      go_wp2_with (first
       | (go_at_call 34; (refine zh.mono ?_); rintro e wN ⟨rfl,q⟩; obtain rfl:=q.symm))
      go_roundw
      case rel => exact ⟨j + 1,by omega,by omega,by go_num,HG.out,by rw [HE.out]; exact HO.out⟩
      case measure => simp [intOf]; omega
  · obtain rfl:j = 18:=by omega
    have j0:¬ (18:Int) ≤ 17:=by omega
    rw [uptoT_end hk] at ho
    clear c HO
    go_wp2
    go_ret
    exact ⟨_,rfl,g,ho⟩
theorem n5:numB 5 = [5]:=by rw [numB_pos 5 (by decide),show 5 / 256 = 0 from rfl,numB_0]; rfl
theorem n1:numB 1 = [1]:=by rw [numB_pos 1 (by decide),show 1 / 256 = 0 from rfl,numB_0]; rfl
theorem rows8 (l:List Nat):∀ x ∈ rowsK ks8 (L8 l),∃ v0:Int,x = [.int .u8 v0]:=by
 intro x hx
 unfold rowsK L8 at hx
 obtain ⟨y,hy,rfl⟩:=List.mem_map.1 hx
 obtain ⟨t,_,rfl⟩:=List.mem_map.1 hy
 exact ⟨_,rfl⟩
theorem wfW01:∀ x ∈ [[0],[1]],wfK ksArg x:=by
 intro x hx
 have q:x = [0] ∨ x = [1]:=by simpa using hx
 rcases q with rfl | rfl
 all_goals
  refine ⟨rfl,fun i k n h1 h2 => ?_⟩
  match i,h1,h2 with
  | 0,h1,h2 => simp [ksArg] at h1 h2; subst h1 h2; rfl
  | i + 1,h1,h2 => simp [ksArg] at h1
theorem getOk_of {S:ByteArray} {l:List UInt8} {m:List AtN} (hl:S.data.toList.drop 5 = l) (hd:decA [] 0 l = (m,0)) (h:GetOk m):∀ m',decA [] 0 (S.extract 5 S.size).data.toList = (m',0) → GetOk m':=by
 intro m' e
 have q:(S.extract 5 S.size).data.toList = l:=by rw [extract_list,List.take_of_length_le (by rw [← size_data]; omega)]; exact hl
 rw [q,hd] at e
 injection e with e
 subst e
 exact h
theorem getOk_nil:GetOk []:=fun t q h => by cases h
theorem getOk_cons {t:Nat} {q:ByteArray} {m:List AtN} (ht:t = 1 ∨ t = 3 ∨ t = 9) (h:GetOk m):GetOk (⟨t,q⟩ :: m):=fun t' q' hm => by
 intro w B b0 M d hB hb hz R hs h1 h2
 rcases List.mem_cons.1 hm with e | hm
 · injection e with e1 e2
   subst e1 e2
   rcases ht with rfl | rfl | rfl
   · exact pget_1 hB hb hz R q' hs
   · exact pget_3 hB hb hz R q' hs
   · exact pget_9 hB hb hz R q' hs
 · exact h t' q' hm hB hb hz R hs h1 h2
theorem dx3:decA [] 0 [3,0,1,5] = ([⟨3,mkB [5]⟩],0):=by
 rw [decA_some,if_neg (by decide),if_neg (by decide)]
 show decA [⟨3,mkB [5]⟩] 3 [] = _
 rw [decA_nil]
theorem dx1:decA [] 0 [1,0,1,5] = ([⟨1,mkB [5]⟩],0):=by
 rw [decA_some,if_neg (by decide),if_neg (by decide)]
 show decA [⟨1,mkB [5]⟩] 1 [] = _
 rw [decA_nil]
theorem dx19:decA [] 0 [1,0,1,3,9,0,5,0,0,0,1,1] = ([⟨1,mkB [3]⟩,⟨9,mkB [0,0,0,1,1]⟩],0):=by
 rw [decA_some,if_neg (by decide),if_neg (by decide)]
 show decA [⟨1,mkB [3]⟩] 1 [9,0,5,0,0,0,1,1] = _
 rw [decA_some,if_neg (by decide),if_neg (by decide)]
 show decA [⟨1,mkB [3]⟩,⟨9,mkB [0,0,0,1,1]⟩] 9 [] = _
 rw [decA_nil]
theorem aw1 (W:World) (K:KindsAt W):Calls Tryz.prog 14 #[.agg (headM 1 258),.string ⟨#[1,0,0,1,2]⟩] W fun e w' => e = .returned (.bool true) ∧ Wider W w' :=
 pis_g W (headM_rep W 1 258 (by decide) (by decide)) K 1 258 (by decide) (by decide) rfl rfl ex1.1 (by show (bodyM 1 258 zeroP).length ≤ _; rw [ex1.2]; decide) (by show _ = mkB (bodyM 1 258 zeroP); rw [ex1.2]; rfl) (getOk_of rfl (decA_nil [] 0) getOk_nil)
theorem aw2 (W:World) (K:KindsAt W):Calls Tryz.prog 14 #[.agg exM2,.string ⟨#[10,0,0,0,1,3,0,1,5]⟩] W fun e w' => e = .returned (.bool true) ∧ Wider W w':=by
 obtain ⟨d,R,h1,h2,h3⟩:=exM2_rep W
 exact pis_g W R K 10 1 (by decide) (by decide) h1 h2 (by rw [h3]; exact ex2.1) (by rw [h3,ex2.2]; decide) (by rw [h3,ex2.2]; rfl) (getOk_of rfl dx3 (getOk_cons (.inr (.inl rfl)) getOk_nil))
theorem aw3 (W:World) (t:TypeId) (K:KindsAt (W.alloc (.cells #[.int .u64 0,.int .u64 1] t))):Calls Tryz.prog 14 #[.agg (exM3 (.slice (some ⟨W.heap.size,0,none⟩) 2 2)),.string ⟨#[32,0,0,0,0,1,0,1,3,9,0,5,0,0,0,1,1]⟩] (W.alloc (.cells #[.int .u64 0,.int .u64 1] t)) fun e w' => e = .returned (.bool true) ∧ Wider (W.alloc (.cells #[.int .u64 0,.int .u64 1] t)) w':=by
 obtain ⟨d,R,h1,h2,h3⟩:=exM3_rep (W.alloc (.cells #[.int .u64 0,.int .u64 1] t)) (v:=.slice (some ⟨W.heap.size,0,none⟩) 2 2) ⟨rfl,rowK_new W ksArg [[0],[1]] t _ rfl (by decide),rfl,by decide,wfW01⟩
 exact pis_g _ R K 32 0 (by decide) (by decide) h1 h2 (by rw [h3]; exact ex3.1) (by rw [h3,ex3.2]; decide) (by rw [h3,ex3.2]; rfl) (getOk_of rfl dx19 (getOk_cons (.inl rfl) (getOk_cons (.inr (.inr rfl)) getOk_nil)))
theorem aw4 (W:World) (K:KindsAt W):Calls Tryz.prog 14 #[.agg (headM 13 9),.string ⟨#[13,0,0,0,9]⟩] W fun e w' => e = .returned (.bool true) ∧ Wider W w' :=
 pis_g W (headM_rep W 13 9 (by decide) (by decide)) K 13 9 (by decide) (by decide) rfl rfl ex4.1 (by show (bodyM 13 9 zeroP).length ≤ _; rw [ex4.2]; decide) (by show _ = mkB (bodyM 13 9 zeroP); rw [ex4.2]; rfl) (getOk_of rfl (decA_nil [] 0) getOk_nil)
theorem aw5 (W:World) (K:KindsAt W):Calls Tryz.prog 19 #[.string ⟨#[99,0,0,0,0]⟩,.int .i64 15] W fun e w' => e = .returned (.bool true) ∧ Wider W w' :=
 prefused_g W K ⟨#[99,0,0,0,0]⟩ (by decide) (r:=15) ex5 (getOk_of rfl (decA_nil [] 0) getOk_nil)
theorem aw6 (W:World) (K:KindsAt W):Calls Tryz.prog 19 #[.string ⟨#[1,0,0,0,0,1,0,1,5]⟩,.int .i64 3] W fun e w' => e = .returned (.bool true) ∧ Wider W w' :=
 prefused_g W K ⟨#[1,0,0,0,0,1,0,1,5]⟩ (by decide) (r:=3) ex6 (getOk_of rfl dx1 (getOk_cons (.inl rfl) getOk_nil))
theorem aw7 (W:World) (K:KindsAt W):Calls Tryz.prog 13 #[.int .u8 30] W fun e w' => ∃ A cp,e = .returned (.slice A 3 cp) ∧ Wider W w' ∧ RowAt w' A 1 (rowsK ks8 (L8 [1,6,7])) :=
 (thas_c W 30 (by decide) K).mono fun e w' ⟨v,he,g,ho⟩ => by
  obtain ⟨A,cp,rfl,hA⟩:=own8_row ho
  exact ⟨A,cp,he,g,hA⟩
theorem aw8 (W:World) (t:TypeId) (A:Option Addr) (cp:Nat) (hA:RowAt (W.alloc (.cells #[.int .u8 1,.int .u8 6,.int .u8 7] t)) A 1 (rowsK ks8 (L8 [1,6,7]))) :
 Calls Tryz.prog 28 #[.slice A 3 cp,.slice (some ⟨W.heap.size,0,none⟩) 3 3] (W.alloc (.cells #[.int .u8 1,.int .u8 6,.int .u8 7] t)) fun e w' => e = .returned (.bool true) ∧ Wider (W.alloc (.cells #[.int .u8 1,.int .u8 6,.int .u8 7] t)) w' :=
 types_c (W.alloc (.cells #[.int .u8 1,.int .u8 6,.int .u8 7] t)) A (some ⟨W.heap.size,0,none⟩) 3 cp 3 3 _ _ hA (rowK_new W ks8 (L8 [1,6,7]) t _ rfl (by decide)) rfl rfl (by decide) (by decide) (rows8 _) (rows8 _) (r:=true) ⟨fun _ => rfl,fun _ => rfl⟩
theorem awake9_c (w:World) (K:KindsAt w):Calls Tryz.prog 11 #[] w fun e w' => e = .returned (.bool true) ∧ Wider w w':=by
 have G:Hid (Wider w w):=Wider.refl w
 have HK:=Lib.hid K
 clear K
 go_enter Tryz.func11,Tryz.ntmps11
 go_wp2_with (first
  | (with_reducible refine wpList_run_val rfl 51 #[(0,.const (.int .u8 1)),(1,.const (.int .u32 258))] rfl (ps:=#[(0,.int .u8 1),(1,.int .u32 258)]) (by kernel_rfl) (run_build _ _ _ (headM 1 258) (by kernel_rfl)) ?_)
  | (with_reducible refine wpList_run_val_w (by kernel_rfl) 51 #[(0,.const (.int .u8 10)),(1,.const (.int .u32 1)),(4,.const (.int .i64 5))] rfl (ps:=#[(0,.int .u8 10),(1,.int .u32 1),(4,.int .i64 5)]) (by kernel_rfl) (run_build _ _ _ exM2 (by kernel_rfl)) ?_)
  | (with_reducible refine wpList_run_val_w (by kernel_rfl) 51 #[(0,.const (.int .u8 32)),(2,.const (.int .i64 3)),(10,.tmp 8)] rfl (ps:=#[(0,.int .u8 32),(2,.int .i64 3),(10,.slice (some ⟨w2.heap.size,0,none⟩) 2 2)]) (by kernel_rfl) (run_build _ _ _ (exM3 (.slice (some ⟨w2.heap.size,0,none⟩) 2 2)) (by kernel_rfl)) ?_)
  | (with_reducible refine wpList_run_val_w (by kernel_rfl) 51 #[(0,.const (.int .u8 13)),(1,.const (.int .u32 9))] rfl (ps:=#[(0,.int .u8 13),(1,.int .u32 9)]) (by kernel_rfl) (run_build _ _ _ (headM 13 9) (by kernel_rfl)) ?_)
  | (go_at_call 14; (with_reducible refine (aw1 _ HK.out).mono ?_); rintro e w1 ⟨rfl,g1⟩; have K1:=Lib.hid (HK.out.on g1); replace G:=htrans G g1; clear g1)
  | (go_at_call 14; (with_reducible refine (aw2 _ K1.out).mono ?_); rintro e w2 ⟨rfl,g1⟩; have K2:=Lib.hid (K1.out.on g1); replace G:=htrans G g1; clear g1)
  | (go_at_call 14; (with_reducible refine (aw3 _ _ (K2.out.on ((Wider.refl _).alloc _))).mono ?_); rintro e w3 ⟨rfl,g1⟩; have g2:=((Wider.refl _).alloc _).trans g1; have K3:=Lib.hid (K2.out.on g2); replace G:=htrans G g2; clear g1 g2)
  | (go_at_call 14; (with_reducible refine (aw4 _ K3.out).mono ?_); rintro e w4 ⟨rfl,g1⟩; have K4:=Lib.hid (K3.out.on g1); replace G:=htrans G g1; clear g1)
  | (go_at_call 19; (with_reducible refine (aw5 _ K4.out).mono ?_); rintro e w5 ⟨rfl,g1⟩; have K5:=Lib.hid (K4.out.on g1); replace G:=htrans G g1; clear g1)
  | (go_at_call 19; (with_reducible refine (aw6 _ K5.out).mono ?_); rintro e w6 ⟨rfl,g1⟩; have K6:=Lib.hid (K5.out.on g1); replace G:=htrans G g1; clear g1)
  | (go_at_call 13; (with_reducible refine (aw7 _ K6.out).mono ?_); rintro e w7 ⟨A,cp,rfl,g1,hA⟩; replace G:=htrans G g1; clear g1)
  | (go_at_call 28; (with_reducible refine (aw8 _ _ _ _ (hA.on ((Wider.refl _).alloc _))).mono ?_); rintro e w8 ⟨rfl,g1⟩; have g2:=((Wider.refl _).alloc _).trans g1; replace G:=htrans G g2; clear g1 g2))
 go_ret
 exact ⟨rfl,G.out⟩
end Go.Proofs.YtoopdhgmdjienaaGreatDoor
namespace Go.Proofs.YtoopdhgmdjienaaGreatDoor
set_option linter.unusedVariables false
set_option maxRecDepth 20000
open Go.ChangeShapes Go.WideShapes Go.ChangeAt Go.RowKit Go.Joins
set_option maxHeartbeats 64000000
theorem gKinds : Tryz.prog.globalNamed "turnout/proto.kinds" = some 0 := by kernel_rfl
theorem tKinds:(Tryz.prog.globals[0]?).map (·.type) = some 115:=by kernel_rfl
theorem kinds_door_met (os:Os) (args:Array Value):laidMetH Tryz.prog Rows.protoXidRow.laid ((World.doorLaid Tryz.prog 14 os).forCall (fun _ _ => 0) ⟨#[],args,[]⟩).memory :=
 laidMetH_of_parts3 (fuel:=8) (laidMet_of_run' 8 (by kernel_rfl) (by kernel_rfl)) (by kernel_rfl) (by kernel_rfl)
theorem kinds_of_laid {W:World} (h:laidMetH Tryz.prog Rows.protoXidRow.laid W):KindsAt W:=by
 rw [MakeChecks.laidMetH_plain _ _ _ (by kernel_rfl)] at h
 obtain ⟨ps,⟨g0,t0,cs0,f0,p0,q0,hg0,ht0,hv0,hd0,_,_⟩,_,_⟩:=h
 obtain rfl:=Option.some.inj (gKinds.symm.trans hg0)
 obtain rfl:=Option.some.inj (tKinds.symm.trans ht0)
 obtain ⟨xs,m1,rfl,hx1,hlen,hn3,hel⟩:=DataW.trod_array Tryz.underlying115 hd0
 have c3:Tryz.prog.cellsOf 27 = 1:=by kernel_rfl
 have hx2:(maskL.map fun m => (DataW.lit (Lit.int IntKind.u32 m):DataW Unit)) = xs.map (·.1):=by
  simp only [Prod.mk.injEq,Rows.laid_turnout_proto_kinds,DataW.agg.injEq] at hx1
  exact hx1.1
 intro i m hm
 have hi:i < 47:=(List.getElem?_eq_some_iff.1 hm).1
 have e1:=congrArg (fun l => l[i]?) hx2
 simp only [List.getElem?_map,hm,Option.map_some] at e1
 obtain ⟨x,hx⟩ : ∃ x,xs[i]? = some x:=⟨xs[i]'(by omega),List.getElem?_eq_getElem _⟩
 have h0:=hel i hi
 rw [hx] at e1 h0
 rw [c3,Nat.mul_one] at h0
 obtain ⟨k,e2,e3,_⟩:=DataW.trod_int Tryz.underlying27 h0
 have e4:(DataW.lit (Lit.int IntKind.u32 m):DataW Unit) = DataW.lit (Lit.int IntKind.u32 k):=by
  rw [e3] at e1
  simpa using e1
 obtain rfl:m = k:=by
  injection e4 with e4
  injection e4
 have hc:=World.var?_cell hg0 hv0 i
 have e5:cs0[i]? = some (Value.int .u32 m):=by
  rw [← Array.getElem?_toList]
  have e6:=congrArg (fun l => l[0]?) e2
  simpa using e6
 rw [e5] at hc
 rw [← hc]
end Go.Proofs.YtoopdhgmdjienaaGreatDoor
