/- RowsG PHead PGetHead PHas PDecA OReadArm ORdL -/
import Derived.Test.YtoopdhgmdjienaaGreatDoorPkR28
namespace Go.Proofs.YtoopdhgmdjienaaGreatDoor
set_option linter.unusedVariables false
set_option maxRecDepth 20000
open Go.ChangeShapes Go.WideShapes Go.ChangeAt Go.RowKit Go.Joins
open Go.ChangeMaps (open_string shut_string)
set_option maxHeartbeats 64000000
def headM (k x:Nat):Array Value:=(zM.setIfInBounds 0 (.int .u8 (k:Int))).setIfInBounds 1 (.int .u32 (x:Int))
def headD (k x:Nat):MsgD:=⟨k,x,0,0,0,0,0,0,0,⟨#[]⟩,[],zV⟩
theorem wfH8 {v:Int} (h0:0 ≤ v) (h1:v < 256):(Lit.int .u8 v).wf = true:=by
 have e1:IntKind.u8.min = 0:=rfl
 have e2:IntKind.u8.max = 255:=rfl
 simp only [Lit.wf,Bool.and_eq_true,decide_eq_true_eq]
 omega
theorem wfH32 {v:Int} (h0:0 ≤ v) (h1:v < 4294967296):(Lit.int .u32 v).wf = true:=by
 have e1:IntKind.u32.min = 0:=rfl
 have e2:IntKind.u32.max = 4294967295:=rfl
 simp only [Lit.wf,Bool.and_eq_true,decide_eq_true_eq]
 omega
theorem headM_rep (w:World) (k x:Nat) (hk:k < 256) (hx:x < 4294967296):RepD w (headM k x) (headD k x) :=
 ⟨(zM_rep w).head rfl (fun j hj => by
  unfold headM
  rw [Array.getElem?_setIfInBounds_ne (by omega),Array.getElem?_setIfInBounds_ne (by omega)]),rfl,wfH8 (by show (0:Int) ≤ (k:Int); omega) (by show (k:Int) < 256; omega),rfl,wfH32 (by show (0:Int) ≤ (x:Int); omega) (by show (x:Int) < 4294967296; omega),rfl,rfl,rfl,rfl,rfl,rfl,rfl,rfl,rfl,rfl,rfl,rfl,rfl,rfl,rfl,Nat.zero_le _,.slice none 0 0,none,0,0,rfl,rfl,⟨fun _ => rfl,fun a e => by cases e⟩,rfl,by decide,fun x hx => by cases hx⟩
theorem byte_or8 (n b:Nat) (hb:b < 256):n * 256 ||| b = n * 256 + b:=by
 have:=Nat.two_pow_add_eq_or_of_lt (i:=8) (b:=b) (by simpa using hb) n
 rw [show n * 256 = 2 ^ 8 * n by omega,← this]
theorem bits_or_u32_nat (a b:Nat) (ha:a < 4294967296) (hb:b < 4294967296):bits .or .u32 (a:Int) (b:Int) = ((a ||| b:Nat):Int):=by
 have hx:a ||| b < 2 ^ 32:=Nat.or_lt_two_pow (by omega) (by omega)
 have h1:(BitVec.ofInt 32 (a:Int)).toNat = a:=by
  rw [BitVec.ofInt_natCast,BitVec.toNat_ofNat]; exact Nat.mod_eq_of_lt (by omega)
 have h2:(BitVec.ofInt 32 (b:Int)).toNat = b:=by
  rw [BitVec.ofInt_natCast,BitVec.toNat_ofNat]; exact Nat.mod_eq_of_lt (by omega)
 show IntKind.u32.wrap ((BitVec.ofInt 32 (a:Int) ||| BitVec.ofInt 32 (b:Int)).toNat:Int) = _
 rw [BitVec.toNat_or,h1,h2]
 simp [IntKind.wrap,IntKind.bits,IntKind.signed]; omega
theorem oneKind (k:Int):(zM.setIfInBounds 0 (.int .u8 k)).all (·.oneCell') = true:=by
 rw [show zM.setIfInBounds 0 (.int .u8 k) = (Value.int .u8 k :: zM.toList.drop 1).toArray from rfl,List.all_toArray]
 rfl
theorem oneHead (k x:Nat):(headM k x).all (·.oneCell') = true:=by
 rw [show headM k x = (Value.int .u8 (k:Int) :: Value.int .u32 (x:Int) :: zM.toList.drop 2).toArray from rfl,List.all_toArray]
 rfl
theorem headM_set (k x y:Nat):(headM k x).setIfInBounds 1 (.int .u32 (y:Int)) = headM k y:=rfl
theorem buildKind (w:World) (k:Int):(Instr.build 51 #[(0,.int .u8 k)]).run Tryz.prog w = .ok (.agg (zM.setIfInBounds 0 (.int .u8 k))) w:=run_build w _ _ (zM.setIfInBounds 0 (.int .u8 k)) (by kernel_rfl)
theorem getHead_c (w:World) (s:ByteArray) (a:UInt8) (r:List UInt8) (hs:s.data.toList = a :: r) (hr:r.length = 4) {k x:Nat} (hk:a.toNat = k) (hx:readB r = x) :
 Calls Tryz.prog 39 #[.string s] w fun e w' => e = .returned (.agg (headM k x)) ∧ Wider w w':=by
 have h5:s.size = 5:=by rw [size_data,hs]; simp [hr]
 subst hk
 obtain ⟨k,hk⟩ : ∃ k,a.toNat = k:=⟨_,rfl⟩
 have k8:k < 256:=by rw [← hk]; exact UInt8.toNat_lt a
 rw [hk]
 have H0:=((Own.nil (Wider.refl w)).blk zM 51).blk zM 51
 have z1:(w.alloc (.cells zM 51)).heap.size = w.heap.size + 1:=by simp
 rw [z1] at H0
 clear z1
 have h0:=H0.head
 have s0:s[0]'(by omega) = a:=by
  have e:s[0]'(by omega) = s.data.toList[0]'(by rw [hs]; simp):=rfl
  rw [e]; simp [hs]
 have b0:(s[0]'(by omega)).toNat = k:=by rw [s0,hk]
 have SIX:Hid (∀ p,(hp:p < 5) → 1 ≤ p → (s[p]'(by omega)).toNat < 256 ∧ readB (r.take p) = readB (r.take (p - 1)) * 256 + (s[p]'(by omega)).toNat):=by
  show ∀ p,(hp:p < 5) → 1 ≤ p → (s[p]'(by omega)).toNat < 256 ∧ readB (r.take p) = readB (r.take (p - 1)) * 256 + (s[p]'(by omega)).toNat
  intro p hp h1
  refine ⟨UInt8.toNat_lt _,?_⟩
  obtain ⟨j,rfl⟩ : ∃ j,p = j + 1:=⟨p - 1,by omega⟩
  have e:s[j + 1]'(by omega) = s.data.toList[j + 1]'(by rw [hs]; simp; omega):=rfl
  rw [e,Nat.add_sub_cancel,List.take_succ_eq_append_getElem (by omega),readB_snoc]
  congr 2
  simp [hs]
 have SUP:Hid (∀ p,p < 4 → readB (r.take p) < 16777216):=by
  show ∀ p,p < 4 → readB (r.take p) < 16777216
  intro p hp
  have q:=readB_lt (r.take p)
  have e:(r.take p).length = p:=by rw [List.length_take]; omega
  rw [e] at q
  obtain rfl | rfl | rfl | rfl:p = 0 ∨ p = 1 ∨ p = 2 ∨ p = 3:=by omega
  all_goals (refine Nat.lt_of_lt_of_le q ?_; decide)
 have SX:Hid (readB (r.take 4) = x):=by
  show readB (r.take 4) = x
  rw [List.take_of_length_le (by omega)]; exact hx
 clear hs hr hx s0 hk
 go_enter Tryz.func39,Tryz.ntmps39
 go_upto_region 2 with (first
  | (with_reducible refine wpList_run_val rfl 51 #[(0,.tmp 6)] rfl (ps:=#[(0,.int .u8 (k:Int))]) rfl (buildKind _ _) ?_)
  | (with_reducible refine wpList_store_row rfl 51 (.tmp 3) (.tmp 7) rfl (w.heap.size + 1) (zM.setIfInBounds 0 (.int .u8 (k:Int))) rfl rfl 51 zM h0 (by kernel_rfl) rfl (oneKind _) ?_; obtain ⟨g1,h1⟩:=setRow_facts (zM.setIfInBounds 0 (.int .u8 (k:Int))) h0))
 have H1:=H0.turn (s:=blkT (w.heap.size + 1) (zM.setIfInBounds 0 (.int .u8 (k:Int))) 51) g1 h1 (blk_stable _ _ _) (fun i m => ⟨.inl m,by simp only [List.mem_singleton] at m; subst m; exact (Array.getElem?_eq_some_iff.1 h1).1⟩)
 obtain ⟨W1,hW1⟩ : ∃ W1,World.setRow ((w.alloc (.cells zM 51)).alloc (.cells zM 51)) (w.heap.size + 1) (zM.setIfInBounds 0 (.int .u8 (k:Int))) = W1:=⟨_,rfl⟩
 rw [hW1] at H1 ⊢
 obtain ⟨B,hB⟩ : ∃ B,w.heap.size = B:=⟨_,rfl⟩
 rw [hB] at H1 ⊢
 clear hW1 g1 h1 h0 H0 b0
 go_wp2
 go_loopw [8] (fun i wr => ∃ j:Nat,j ≤ 4 ∧ i = .int .i64 (j:Int) ∧ Own w wr [blkT (B + 1) (headM k (readB (r.take j))) 51,blkT B zM 51]) (fun i _ => 4 - (intOf i).toNat)
 case atStart => exact ⟨0,by omega,by simp,H1⟩
 case round =>
  obtain ⟨j,hj,hi,H⟩:=hrel
  obtain ⟨V,hV⟩ : ∃ V,readB (r.take j) = V:=⟨_,rfl⟩
  rw [hV] at H
  have hc:=blk_cell H.head 1 (v:=.int .u32 (V:Int)) rfl
  have hf:=blk_free H.head 1
  have HH:=Lib.hid H
  by_cases cj:j < 4
  · obtain ⟨p,hp⟩ : ∃ p:Nat,(1:Int) + (j:Int) = (p:Int):=⟨1 + j,by omega⟩
    have p5:p < 5:=by omega
    obtain ⟨y8,yn⟩:=SIX.out p p5 (by omega)
    have v24:=SUP.out j cj
    rw [hV] at v24
    have YN:Hid (readB (r.take (j + 1)) = V * 256 + (s[p]'(by omega)).toNat):=by
     show _ = _
     rw [show j + 1 = p by omega,yn,show p - 1 = j by omega,hV]
    have j1:(j:Int) < 4:=by omega
    have O:Hid (bits BinOp.or IntKind.u32 ((V:Int) * 256) ((s[p]'(by omega)).toNat:Int) = ((V * 256 + (s[p]'(by omega)).toNat:Nat):Int)):=by
     show bits BinOp.or IntKind.u32 ((V:Int) * 256) ((s[p]'(by omega)).toNat:Int) = _
     have e:=bits_or_u32_nat (V * 256) (s[p]'(by omega)).toNat (by omega) (by omega)
     rw [byte_or8 V _ y8] at e
     rw [← e]; simp
    clear H hV yn
    subst hi
    go_upto_region 5 with (fail)
    have wp:IntKind.i64.wrap (p:Int) = (p:Int):=by rw [IntKind.wrap_i64]; omega
    have wv:IntKind.u32.wrap ((V:Int) * 256) = (V:Int) * 256:=by rw [IntKind.wrap_u32]; omega
    have p0:(0:Int) ≤ (p:Int):=by omega
    have p1:(p:Int) < 5:=by omega
    have ws:IntKind.u32.wrap ((s[p]'(by omega)).toNat:Int) = ((s[p]'(by omega)).toNat:Int):=by rw [IntKind.wrap_u32]; omega
    go_still_tail 10,(by kernel_rfl)
    change wpList _ _ _ _ _ wr.drew
    have H2:=HH.out.quiet (Wider.refl wr).drew
    have hf2:=blk_free H2.head 1
    have hc2:=blk_cell H2.head 1 (v:=.int .u32 (V:Int)) rfl
    have H3:=H2.store 1 (.int .u32 ((V * 256 + (s[p]'(by omega)).toNat:Nat):Int))
    rw [headM_set] at H3
    have H4:=Lib.hid H3
    rw [O.out]
    clear H2 H3 hc hf
    go_wp2
    go_roundw
    case rel => exact ⟨j + 1,by omega,by go_num,by rw [YN.out]; exact H4.out⟩
    case measure => simp [intOf]; omega
  · obtain rfl:j = 4:=by omega
    have hV4:V = x:=by rw [← hV]; exact SX.out
    subst hV4
    subst hi
    have h3:=HH.out.head
    have h2:=HH.out.second
    clear hV H
    go_wp2_with (first
     | (with_reducible refine wpList_load_row rfl 51 (.tmp 3) rfl (B + 1) rfl 51 (headM k V) (0,0) _ h3 Tryz.underlying51 rfl (by kernel_rfl) ?_)
     | (with_reducible refine wpList_store_row rfl 51 (.tmp 2) (.tmp 22) rfl B (headM k V) rfl rfl 51 zM h2 (by kernel_rfl) rfl (oneHead _ _) ?_; obtain ⟨g5,h5⟩:=setRow_facts (headM k V) h2))
    have hl:=run_loadVar_row (P:=Tryz.prog) _ B 51 51 _ (0,0) _ h5 Tryz.underlying51 rfl (by kernel_rfl)
    have W5:=g5.wider HH.out.wider (by intro i m; simp only [List.mem_singleton] at m; omega)
    simp [bodyPost,results,Tryz.results39,asAddr,hl]
    exact W5
def maskL:List Int:=[0,0,64,256,256,0,68,0,0,12,8,1024,2,2048,2,4096,2,8192,8192,16384,2,32768,2,65536,2,131072,2,2,2,2,194,70,518,518,2,66,0,512,16,84,272,304,8224,0,64,2,66]
def KindsAt (w:World):Prop:=∀ i m,maskL[i]? = some m → w.cell? ⟨0,i,none⟩ = some (.int .u32 m)
theorem KindsAt.on {W w:World} (h:KindsAt W) (g:Wider W w):KindsAt w:=fun i m hm => wkeep g (h i m hm)
def hasB (m:Int) (t:Nat):Bool:=bits BinOp.and IntKind.u32 (m / 2 ^ min t 32) 1 == 1
theorem has_all:((List.range 47).all fun k => (List.range 256).all fun t => hasB (maskL.getD k 0) t == decide (t ∈ hasL k)) = true:=by kernel_rfl
theorem has_none:((List.range 256).all fun k => decide (k < 47) || (hasL k).isEmpty) = true:=by kernel_rfl
theorem hasB_eq {k t:Nat} {m:Int} (hm:maskL[k]? = some m) (ht:t < 256):hasB m t = decide (t ∈ hasL k):=by
 have hk:k < 47:=(List.getElem?_eq_some_iff.1 hm).1
 have h:=List.all_eq_true.1 (List.all_eq_true.1 has_all k (List.mem_range.2 hk)) t (List.mem_range.2 ht)
 have e:maskL.getD k 0 = m:=by rw [List.getD_eq_getElem?_getD,hm]; rfl
 rw [e] at h
 exact eq_of_beq h
theorem hasL_none {k:Nat} (hk:k < 256) (c:¬ k < 47):hasL k = []:=by
 have h:=List.all_eq_true.1 has_none k (List.mem_range.2 hk)
 simpa [c] using h
theorem has_c (w:World) (k t:Nat) (hk:k < 256) (ht:t < 256) (HK:KindsAt w) {r:Bool} (hr:r = decide (t ∈ hasL k)) :
 Calls Tryz.prog 34 #[.int .u8 (k:Int),.int .u8 (t:Int)] w fun e w' => e = .returned (.bool r) ∧ w' = w:=by
 by_cases c:k < 47
 · have c1:(k:Int) < 47:=by omega
   obtain ⟨m,hm⟩ : ∃ m,maskL[k]? = some m:=⟨maskL[k]'c,List.getElem?_eq_getElem _⟩
   have hc:=HK k m hm
   have HM:=Lib.hid hm
   clear hm HK
   have HR:=Lib.hid hr
   clear hr
   have H:Wider w w:=Wider.refl w
   go_enter Tryz.func34,Tryz.ntmps34
   go_wp2
   go_ret
   exact ⟨by rw [HR.out,← hasB_eq HM.out ht]; rfl,rfl⟩
 · have c1:¬ (k:Int) < 47:=by omega
   obtain rfl:r = false:=by
    rw [hr,hasL_none hk c]; rfl
   clear HK hr
   go_enter Tryz.func34,Tryz.ntmps34
   go_wp2
   go_ret
   exact ⟨rfl,rfl⟩
theorem all_of_get {M:Array Value} (h:∀ (i:Nat) v,M[i]? = some v → v.oneCell' = true):M.all (·.oneCell') = true:=by
 rw [Array.all_eq_true]
 intro i hi
 exact h i _ (Array.getElem?_eq_getElem hi)
theorem get_of_all {M:Array Value} (h:M.all (·.oneCell') = true) {i:Nat} {v:Value} (e:M[i]? = some v):v.oneCell' = true:=by
 obtain ⟨hi,rfl⟩:=Array.getElem?_eq_some_iff.1 e
 exact Array.all_eq_true.1 h i hi
theorem part_one {M:Array Value} {a b:Nat} (hb:b ≤ M.size) (h:(M.extract a b).all (·.oneCell') = true) {i:Nat} (h1:a ≤ i) (h2:i < b) {v:Value} (e:M[i]? = some v):v.oneCell' = true :=
 get_of_all h (i:=i - a) (by rw [extract_get M a b _ hb,if_pos (by omega),show a + (i - a) = i by omega]; exact e)
theorem RepD.one {w:World} {M:Array Value} {d:MsgD} (R:RepD w M d):M.all (·.oneCell') = true:=by
 have sM:=R.size
 refine all_of_get fun i v e => ?_
 have hi:i < 52:=by rw [← sM]; exact (Array.getElem?_eq_some_iff.1 e).1
 by_cases c:i < 11
 · obtain ⟨v0,A0,n0,p0,e0,r0⟩:=R.c10
   obtain rfl | rfl | rfl | rfl | rfl | rfl | rfl | rfl | rfl | rfl | rfl:i = 0 ∨ i = 1 ∨ i = 2 ∨ i = 3 ∨ i = 4 ∨ i = 5 ∨ i = 6 ∨ i = 7 ∨ i = 8 ∨ i = 9 ∨ i = 10:=by omega
   · rw [R.c0] at e; injection e with e; rw [← e]; rfl
   · rw [R.c1] at e; injection e with e; rw [← e]; rfl
   · rw [R.c2] at e; injection e with e; rw [← e]; rfl
   · rw [R.c3] at e; injection e with e; rw [← e]; rfl
   · rw [R.c4] at e; injection e with e; rw [← e]; rfl
   · rw [R.c5] at e; injection e with e; rw [← e]; rfl
   · rw [R.c6] at e; injection e with e; rw [← e]; rfl
   · rw [R.c7] at e; injection e with e; rw [← e]; rfl
   · rw [R.c8] at e; injection e with e; rw [← e]; rfl
   · rw [R.c9] at e; injection e with e; rw [← e]; rfl
   · rw [e0] at e; injection e with e; rw [← e,r0.val]; rfl
 · have A:=R.A
   by_cases c1:i < 20
   · exact part_one (by omega) A.r0.one (a:=11) (b:=20) (by omega) c1 e
   by_cases c2:i < 25
   · exact part_one (by omega) A.r1.one (a:=20) (b:=25) (by omega) c2 e
   by_cases c3:i < 30
   · exact part_one (by omega) A.r2.one (a:=25) (b:=30) (by omega) c3 e
   by_cases c4:i < 41
   · exact part_one (by omega) A.r3.one (a:=30) (b:=41) (by omega) c4 e
   by_cases c5:i < 43
   · exact part_one (by omega) A.r4.one (a:=41) (b:=43) (by omega) c5 e
   by_cases c6:i < 47
   · exact part_one (by omega) A.r5.one (a:=43) (b:=47) (by omega) c6 e
   by_cases c7:i < 50
   · exact part_one (by omega) A.r6.one (a:=47) (b:=50) (by omega) c7 e
   · exact part_one (by omega) A.r7.one (a:=50) (b:=52) (by omega) (by omega) e
theorem num_dec {c:Cod ValN} {s:ByteArray} {p:PartN} (hc:∀ v,c.dec s = some v → ∃ n,v = .num n) (h:(oneP c).dec s = some p):∃ n,p = .one (.num n):=by
 have h2:(c.dec s).map PartN.one = some p:=h
 cases e:c.dec s with
 | none => rw [e] at h2; cases h2
 | some v =>
   rw [e] at h2
   obtain ⟨n,rfl⟩:=hc v e
   injection h2 with h2
   exact ⟨n,h2.symm⟩
theorem numV_dec {top:Nat} {ht:top < 18446744073709551616} {s:ByteArray} (v:ValN) (h:(numV top ht).dec s = some v):∃ n,v = .num n:=by
 have h2:((numC top ht).dec s).map ValN.num = some v:=h
 cases e:(numC top ht).dec s with
 | none => rw [e] at h2; cases h2
 | some n =>
   rw [e] at h2
   injection h2 with h2
   exact ⟨n,h2.symm⟩
theorem setN_dec (d:MsgD) (i:Nat) {p:PartN} (hi:i < 17) {s:ByteArray} (h:(partC 65535 i).dec s = some p):(d.setN i p).ps = d.ps.set i p ∧ (d.setN i p).kind = d.kind ∧ (d.setN i p).xid = d.xid:=by
 refine setN_ps d i p hi fun q hq => ?_
 by_cases c:i < 9
 · obtain rfl | rfl | rfl | rfl | rfl | rfl | rfl | rfl | rfl:i = 0 ∨ i = 1 ∨ i = 2 ∨ i = 3 ∨ i = 4 ∨ i = 5 ∨ i = 6 ∨ i = 7 ∨ i = 8:=by omega
   · obtain ⟨n,rfl⟩:=num_dec numV_dec h; exact .inl ⟨n,rfl,_,(Option.some.inj hq).symm⟩
   · obtain ⟨n,rfl⟩:=num_dec numV_dec h; exact .inl ⟨n,rfl,_,(Option.some.inj hq).symm⟩
   · obtain ⟨n,rfl⟩:=num_dec numV_dec h; exact .inl ⟨n,rfl,_,(Option.some.inj hq).symm⟩
   · obtain ⟨n,rfl⟩:=num_dec numV_dec h; exact .inl ⟨n,rfl,_,(Option.some.inj hq).symm⟩
   · obtain ⟨n,rfl⟩:=num_dec numV_dec h; exact .inl ⟨n,rfl,_,(Option.some.inj hq).symm⟩
   · obtain ⟨n,rfl⟩:=num_dec numV_dec h; exact .inl ⟨n,rfl,_,(Option.some.inj hq).symm⟩
   · obtain ⟨n,rfl⟩:=num_dec numV_dec h; exact .inl ⟨n,rfl,_,(Option.some.inj hq).symm⟩
   · have h2:((if s.size ≤ 65535 then some (ValN.txt s) else none:Option ValN)).map PartN.one = some p:=h
     split at h2
     · injection h2 with h2
       exact .inr (.inl ⟨s,h2.symm,_,(Option.some.inj hq).symm⟩)
     · cases h2
   · have h2:((if (decT [] 128 s.data.toList).2 = 0 then (mapD cArg.dec (decT [] 128 s.data.toList).1).map ValN.lst else none:Option ValN)).map PartN.one = some p:=h
     split at h2
     · cases e:mapD cArg.dec (decT [] 128 s.data.toList).1 with
       | none => rw [e] at h2; cases h2
       | some l =>
         rw [e] at h2
         injection h2 with h2
         exact .inr (.inr (.inl ⟨l,h2.symm,_,(Option.some.inj hq).symm⟩))
     · cases h2
 · obtain ⟨j,rfl⟩ : ∃ j,i = j + 9:=⟨i - 9,by omega⟩
   have h2:=h
   rw [dec_obj 65535 j s (vs:=(decG (csKind j) s.data.toList).1) (r:=(decG (csKind j) s.data.toList).2) rfl] at h2
   split at h2
   · injection h2 with h2
     refine .inr (.inr (.inr ⟨_,h2.symm,?_⟩))
     obtain rfl | rfl | rfl | rfl | rfl | rfl | rfl | rfl:j = 0 ∨ j = 1 ∨ j = 2 ∨ j = 3 ∨ j = 4 ∨ j = 5 ∨ j = 6 ∨ j = 7:=by omega
     all_goals exact ⟨_,(Option.some.inj hq).symm⟩
   · cases h2
theorem RepK.less {b0 b1:Nat} {w:World} {M:Array Value} {d:MsgD} (h:RepK b1 w M d) (hb:b0 ≤ b1):RepK b0 w M d:=fun W k => h W (k.less hb)
theorem zM_head:headM 0 0 = zM:=rfl
theorem zM_all:zM.all (·.oneCell') = true:=by rw [← zM_head]; exact oneHead 0 0
theorem zM_repK (b0:Nat) (w:World):RepK b0 w zM (headD 0 0):=fun W _ => by rw [← zM_head]; exact headM_rep W 0 0 (by decide) (by decide)
end Go.Proofs.YtoopdhgmdjienaaGreatDoor
namespace Go.Proofs.YtoopdhgmdjienaaGreatDoor
set_option linter.unusedVariables false
open Go.ChangeShapes Go.WideShapes Go.ChangeAt Go.RowKit Go.Joins
open Go.ChangeMaps (open_string shut_string)
set_option maxHeartbeats 64000000
set_option maxRecDepth 4000 in
theorem oreadArm_c (s:ByteArray) (w:World) (hs:s.size < 1000000) {v0 v1:Int} {r:Nat} (hr:decG csArm s.data.toList = ([v0,v1],r)) {b:Bool} (hb:b = true ↔ r = 0) :
 Calls Tryz.prog 178 #[.string s] w fun e w' => e = .returned (.tuple #[.agg #[.int .u32 v0,.int .i64 v1],.bool b]) ∧ Wider w w':=by
 obtain ⟨m,c,hd⟩ : ∃ m c,decA [] 0 s.data.toList = (m,c):=⟨_,_,rfl⟩
 have H0:=((Own.nil (Wider.refl w)).blk #[.int .u32 0,.int .i64 0] 61).blk #[.int .u32 0,.int .i64 0] 61
 have hz:(w.alloc (.cells #[.int .u32 0,.int .i64 0] 61)).heap.size = w.heap.size + 1:=by simp
 rw [hz] at H0
 have HR:=Lib.hid hr
 have HB:=Lib.hid hb
 have hl:=decA_few hd
 obtain ⟨n,hn⟩ : ∃ n,m.length = n:=⟨_,rfl⟩
 rw [hn] at hl
 have HM:=Lib.hid hn
 have zd:=fun W:World => odec_c s W hs hd hn
 have HD:=Lib.hid hd
 clear hr hz hd hn hb
 by_cases c0:c = 0
 · subst c0
   go_enter Tryz.func178,Tryz.ntmps178
   go_wp2_with (go_at_call 31; ((with_reducible refine (zd _).mono ?_); rintro e w2 ⟨A,cp,rfl,g2,h2⟩; have H1:=H0.row g2 h2))
   clear H0 zd g2 h2
   go_loopw [7] (fun i wr => ∃ j:Nat,j ≤ n ∧ i = .int .i64 (j:Int) ∧ ∃ u0 u1:Int,Own w wr [rowT 77 2 (.slice A n cp) n (cellsA m),blkT (w.heap.size + 1) #[.int .u32 u0,.int .i64 u1] 61,blkT w.heap.size #[.int .u32 0,.int .i64 0] 61] ∧ Hid (readG csArm (zeroG csArm) (m.take j) = some [u0,u1])) (fun i _ => n - (intOf i).toNat)
   case atStart => exact ⟨0,by omega,by simp,0,0,H1,rfl⟩
   case round =>
    obtain ⟨j,hj,rfl,u0,u1,H,HG⟩:=hrel
    have HQ:=Lib.hid H1
    clear H1
    by_cases cj:j < n
    · have j0:(0:Int) ≤ (j:Int):=by omega
      have j1:(j:Int) < (n:Int):=by omega
      obtain ⟨x,hx⟩:=next_some m j (by rw [HM.out]; exact cj)
      obtain ⟨A',cp',ea,ha,_⟩:=atsAt_own H.head
      injection ea with ea1 ea2 ea3
      subst ea1 ea3
      cases A with
      | none => exact absurd (ha.none_ rfl) (by intro e; rw [e] at hx; simp at hx)
      | some a =>
        have hA:=ha.cell a rfl j x hx
        have HX:=Lib.hid hx
        have HS:Hid (readG csArm (zeroG csArm) (m.take (j + 1)) = stepG csArm [u0,u1] x):=readG_next HG.out hx
        have HN:stepG csArm [u0,u1] x = none → ([v0,v1] = [0,0] ∧ r = 3):=fun e => by
         have q:=HR.out
         rw [decG_none HD.out (readG_stuck HG.out hx e)] at q
         injection q with q1 q2
         exact ⟨q1.symm,q2.symm⟩
        have sz:x.v.size < 1000000:=attr_small HD.out hs hx
        clear hx ha
        obtain ⟨t,q⟩:=x
        have ⟨k0,k1⟩:=hA
        have k2:=hA.flat
        simp only at k0 k1 k2 sz
        clear hA
        by_cases t0:t = 1
        · subst t0
          have e0:(((1:Nat):Int) == 1) = true:=by decide
          obtain ⟨y,z,hyz⟩ : ∃ y z,rnumN q.data.toList 4294967295 = (y,z):=⟨_,_,rfl⟩
          by_cases z0:z = 0
          · subst z0
            have hle:=(rnum_inv _ _ _ hyz).1
            have zr:=fun W:World => oread_c q 4294967295 4294967295 rfl W sz (by decide) (b:=true) hyz (by simp)
            have HS2:Hid (readG csArm (zeroG csArm) (m.take (j + 1)) = some [(y:Int),u1]):=by
             show _ = _
             rw [HS.out]
             exact step_at (show codeAt csArm 1 = some iW from rfl) (numC_yes hyz)
            have w1:IntKind.u32.wrap (y:Int) = (y:Int):=by simp [IntKind.wrap,IntKind.bits,IntKind.signed]; omega
            clear HS HN hyz
            go_wp2_with (go_at_call 176; ((with_reducible refine (zr _).mono ?_); rintro e w3 ⟨rfl,g3⟩; have H3:=H.quiet g3; have kx:=blk_cell H3.second 0 (v:=.int .u32 u0) rfl; have fx:=blk_free H3.second 0))
            have H4:=(H3.swap.store 0 (.int .u32 (y:Int))).swap
            go_roundw
            case rel => exact ⟨j + 1,by omega,by go_num,(y:Int),u1,H4,HS2⟩
            case measure => simp [intOf]; omega
          · obtain ⟨rfl,rfl⟩ : y = 0 ∧ z = 3:=by
             rcases rnum_codes q.data.toList 4294967295 with k | k
             · rw [hyz] at k; exact absurd k z0
             · rw [hyz] at k; injection k with k1 k2; exact ⟨k1,k2⟩
            have zr:=fun W:World => oread_c q 4294967295 4294967295 rfl W sz (by decide) (b:=false) hyz (by simp)
            have hst:stepG csArm [u0,u1] ⟨1,q⟩ = none:=by
             exact step_bad (show codeAt csArm 1 = some iW from rfl) (numC_no hyz)
            obtain ⟨hv,rfl⟩:=HN hst
            simp only [List.cons.injEq,and_true] at hv
            obtain ⟨rfl,rfl⟩:=hv
            obtain rfl:b = false:=by
             cases b with
             | false => rfl
             | true => exact absurd (HB.out.1 rfl) (by decide)
            clear HS HN hst HR HG
            go_wp2_with (go_at_call 176; ((with_reducible refine (zr _).mono ?_); rintro e w3 ⟨rfl,g3⟩; have H3:=H.quiet g3; have kx:=blk_cell H3.second 0 (v:=.int .u32 u0) rfl; have fx:=blk_free H3.second 0; have kr0:=blk_cell H3.drop.second 0 (v:=.int .u32 0) rfl; have fr0:=blk_free H3.drop.second 0; have kr1:=blk_cell H3.drop.second 1 (v:=.int .i64 0) rfl; have fr1:=blk_free H3.drop.second 1))
            have H5:=(((H3.swap.store 0 (.int .u32 0)).third.store 0 (.int .u32 0)).store 1 (.int .i64 0))
            have d100:=blk_cell H5.head 0 (v:=.int .u32 0) rfl
            have d101:=blk_cell H5.head 1 (v:=.int .i64 0) rfl
            simp [bodyPost,results,Tryz.results178,go_sem,d100,d101]
            exact H5.wider
        by_cases t1:t = 2
        · subst t1
          have e0:(((2:Nat):Int) == 1) = false:=by decide
          have e1:(((2:Nat):Int) == 2) = true:=by decide
          obtain ⟨y,z,hyz⟩ : ∃ y z,rnumN q.data.toList 2147483647 = (y,z):=⟨_,_,rfl⟩
          by_cases z0:z = 0
          · subst z0
            have hle:=(rnum_inv _ _ _ hyz).1
            have zr:=fun W:World => oread_c q 2147483647 2147483647 rfl W sz (by decide) (b:=true) hyz (by simp)
            have HS2:Hid (readG csArm (zeroG csArm) (m.take (j + 1)) = some [u0,(y:Int)]):=by
             show _ = _
             rw [HS.out]
             exact step_at (show codeAt csArm 2 = some iI from rfl) (numC_yes hyz)
            have w1:IntKind.i64.wrap (y:Int) = (y:Int):=by simp [IntKind.wrap,IntKind.bits,IntKind.signed]; omega
            clear HS HN hyz
            go_wp2_with (go_at_call 176; ((with_reducible refine (zr _).mono ?_); rintro e w3 ⟨rfl,g3⟩; have H3:=H.quiet g3; have kx:=blk_cell H3.second 1 (v:=.int .i64 u1) rfl; have fx:=blk_free H3.second 1))
            have H4:=(H3.swap.store 1 (.int .i64 (y:Int))).swap
            go_roundw
            case rel => exact ⟨j + 1,by omega,by go_num,u0,(y:Int),H4,HS2⟩
            case measure => simp [intOf]; omega
          · obtain ⟨rfl,rfl⟩ : y = 0 ∧ z = 3:=by
             rcases rnum_codes q.data.toList 2147483647 with k | k
             · rw [hyz] at k; exact absurd k z0
             · rw [hyz] at k; injection k with k1 k2; exact ⟨k1,k2⟩
            have zr:=fun W:World => oread_c q 2147483647 2147483647 rfl W sz (by decide) (b:=false) hyz (by simp)
            have hst:stepG csArm [u0,u1] ⟨2,q⟩ = none:=by
             exact step_bad (show codeAt csArm 2 = some iI from rfl) (numC_no hyz)
            obtain ⟨hv,rfl⟩:=HN hst
            simp only [List.cons.injEq,and_true] at hv
            obtain ⟨rfl,rfl⟩:=hv
            obtain rfl:b = false:=by
             cases b with
             | false => rfl
             | true => exact absurd (HB.out.1 rfl) (by decide)
            clear HS HN hst HR HG
            go_wp2_with (go_at_call 176; ((with_reducible refine (zr _).mono ?_); rintro e w3 ⟨rfl,g3⟩; have H3:=H.quiet g3; have kx:=blk_cell H3.second 1 (v:=.int .i64 u1) rfl; have fx:=blk_free H3.second 1; have kr0:=blk_cell H3.drop.second 0 (v:=.int .u32 0) rfl; have fr0:=blk_free H3.drop.second 0; have kr1:=blk_cell H3.drop.second 1 (v:=.int .i64 0) rfl; have fr1:=blk_free H3.drop.second 1))
            have H5:=(((H3.swap.store 1 (.int .i64 0)).third.store 0 (.int .u32 0)).store 1 (.int .i64 0))
            have d100:=blk_cell H5.head 0 (v:=.int .u32 0) rfl
            have d101:=blk_cell H5.head 1 (v:=.int .i64 0) rfl
            simp [bodyPost,results,Tryz.results178,go_sem,d100,d101]
            exact H5.wider
        have e0:((t:Int) == 1) = false:=by rw [beq_eq_false_iff_ne]; omega
        have e1:((t:Int) == 2) = false:=by rw [beq_eq_false_iff_ne]; omega
        have hst:stepG csArm [u0,u1] ⟨t,q⟩ = none:=step_none (by show ¬ (1 ≤ t ∧ t ≤ 2); omega)
        obtain ⟨hv,rfl⟩:=HN hst
        simp only [List.cons.injEq,and_true] at hv
        obtain ⟨rfl,rfl⟩:=hv
        obtain rfl:b = false:=by
         cases b with
         | false => rfl
         | true => exact absurd (HB.out.1 rfl) (by decide)
        clear HS HN hst HR HG
        have kr0:=blk_cell H.drop.second 0 (v:=.int .u32 0) rfl
        have fr0:=blk_free H.drop.second 0
        have kr1:=blk_cell H.drop.second 1 (v:=.int .i64 0) rfl
        have fr1:=blk_free H.drop.second 1
        go_wp2
        have H5:=((H.third.store 0 (.int .u32 0)).store 1 (.int .i64 0))
        have d100:=blk_cell H5.head 0 (v:=.int .u32 0) rfl
        have d101:=blk_cell H5.head 1 (v:=.int .i64 0) rfl
        simp [bodyPost,results,Tryz.results178,go_sem,d100,d101]
        exact H5.wider
    · obtain rfl:j = n:=by omega
      have q:=HR.out
      have q2:=HG.out
      rw [List.take_of_length_le (by rw [HM.out]; exact Nat.le_refl _)] at q2
      rw [decG_some HD.out q2] at q
      injection q with q3 q4
      subst q4
      simp only [List.cons.injEq,and_true] at q3
      obtain ⟨rfl,rfl⟩:=q3
      obtain rfl:b = true:=HB.out.2 rfl
      have kx0:=blk_cell H.second 0 (v:=.int .u32 u0) rfl
      have kr0:=blk_cell H.drop.second 0 (v:=.int .u32 0) rfl
      have fr0:=blk_free H.drop.second 0
      have kx1:=blk_cell H.second 1 (v:=.int .i64 u1) rfl
      have kr1:=blk_cell H.drop.second 1 (v:=.int .i64 0) rfl
      have fr1:=blk_free H.drop.second 1
      clear q2 HG HR HQ
      go_wp2
      have H5:=((H.third.store 0 (.int .u32 u0)).store 1 (.int .i64 u1))
      have d100:=blk_cell H5.head 0 (v:=.int .u32 u0) rfl
      have d101:=blk_cell H5.head 1 (v:=.int .i64 u1) rfl
      simp [bodyPost,results,Tryz.results178,go_sem,d100,d101]
      exact H5.wider
 · have q:=HR.out
   rw [decG_err HD.out c0] at q
   injection q with q1 q2
   subst q2
   have q3:[v0,v1] = [0,0]:=q1.symm
   simp only [List.cons.injEq,and_true] at q3
   obtain ⟨rfl,rfl⟩:=q3
   obtain rfl:b = false:=by
    cases b with
    | false => rfl
    | true => exact absurd (HB.out.1 rfl) c0
   have d0:((c:Int) != 0) = true:=by rw [bne_iff_ne]; omega
   clear HR q1
   go_enter Tryz.func178,Tryz.ntmps178
   go_wp2_with (go_at_call 31; ((with_reducible refine (zd _).mono ?_); rintro e w2 ⟨A,cp,rfl,g2,h2⟩; have H1:=H0.quiet g2; have kx0:=blk_cell H1.head 0 (v:=.int .u32 0) rfl; have kr0:=blk_cell H1.second 0 (v:=.int .u32 0) rfl; have fr0:=blk_free H1.second 0; have kx1:=blk_cell H1.head 1 (v:=.int .i64 0) rfl; have kr1:=blk_cell H1.second 1 (v:=.int .i64 0) rfl; have fr1:=blk_free H1.second 1))
   have H5:=((H1.swap.store 0 (.int .u32 0)).store 1 (.int .i64 0))
   have d100:=blk_cell H5.head 0 (v:=.int .u32 0) rfl
   have d101:=blk_cell H5.head 1 (v:=.int .i64 0) rfl
   simp [bodyPost,results,Tryz.results178,go_sem,d100,d101]
   exact H5.wider
end Go.Proofs.YtoopdhgmdjienaaGreatDoor
namespace Go.Proofs.YtoopdhgmdjienaaGreatDoor
set_option linter.unusedVariables false
open Go.ChangeShapes Go.WideShapes Go.ChangeAt Go.RowKit Go.Joins
set_option maxHeartbeats 64000000
theorem perm5 {α:Type} (a b c d e:α):[a,b,c,d,e].Perm [e,c,a,b,d] :=
 (List.perm_append_comm (l₁:=[a,b,c,d]) (l₂:=[e])).trans (.cons e ((List.perm_append_comm (l₁:=[a,b]) (l₂:=[c])).append_right [d]))
theorem Own.in5 {V w:World} {a b c d e:Thing} (H:Own V w [a,b,c,d,e]):Own V w [e,c,a,b,d]:=H.perm (perm5 a b c d e)
theorem Own.out5 {V w:World} {a b c d e:Thing} (H:Own V w [e,c,a,b,d]):Own V w [a,b,c,d,e]:=H.perm (perm5 a b c d e).symm
theorem liesL (w:World) (C:Array Value) (t:TypeId) (h:∀ x ∈ C.toList,x.oneCell' = true) :
 (∀ (j:Nat) (x:Value),C.toList[j]? = some x → (w.alloc (.cells C t)).cell? ((⟨w.heap.size,0,none⟩ : Addr).add j) = some x) ∧ (∀ x ∈ C.toList,x.oneCell' = true):=by
 refine ⟨fun j x hj => ?_,h⟩
 rw [Addr.add_mid,Nat.zero_add]
 exact blk_cell (heap_alloc_new w _) j (by rw [← Array.getElem?_toList]; exact hj)
end Go.Proofs.YtoopdhgmdjienaaGreatDoor
