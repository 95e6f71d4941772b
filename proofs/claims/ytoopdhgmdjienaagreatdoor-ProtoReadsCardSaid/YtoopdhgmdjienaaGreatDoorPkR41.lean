/- PDec PPHead -/
import Derived.Test.YtoopdhgmdjienaaGreatDoorPkR29
namespace Go.Proofs.YtoopdhgmdjienaaGreatDoor
set_option linter.unusedVariables false
set_option maxRecDepth 20000
open Go.ChangeShapes Go.WideShapes Go.ChangeAt Go.RowKit Go.Joins
open Go.ChangeMaps (open_string shut_string)
set_option maxHeartbeats 64000000
theorem hasL_in:((List.range 256).all fun k => (hasL k).all fun t => decide (1 ≤ t) && decide (t ≤ 17)) = true:=by kernel_rfl
theorem hasL_between {k t:Nat} (hk:k < 256) (h:t ∈ hasL k):1 ≤ t ∧ t ≤ 17:=by
 have q:=List.all_eq_true.1 (List.all_eq_true.1 hasL_in k (List.mem_range.2 hk)) t h
 simpa using q
theorem stepM_yes {k:Nat} (hk:k < 256) {ps:List PartN} {a:AtN} (h:a.t ∈ hasL k):stepG (csM 65535 k) ps a = ((partC 65535 (a.t - 1)).dec a.v).map fun p => ps.set (a.t - 1) p:=by
 obtain ⟨h1,h2⟩:=hasL_between hk h
 have e:codeAt (csM 65535 k) a.t = some (partC 65535 (a.t - 1)):=by
  unfold codeAt
  rw [if_neg (by omega),csM_at _ _ _ (by omega),if_pos (by rw [Nat.sub_add_cancel h1]; exact h)]
 unfold stepG
 rw [e]
 dsimp only
 cases (partC 65535 (a.t - 1)).dec a.v <;> rfl
theorem stepM_no {k:Nat} {ps:List PartN} {a:AtN} (hv:a.v.size ≠ 0) (h:a.t ∉ hasL k):stepG (csM 65535 k) ps a = none:=by
 unfold stepG codeAt
 by_cases c:a.t = 0
 · rw [if_pos c]
 · rw [if_neg c]
   by_cases d:a.t - 1 < 17
   · rw [csM_at _ _ _ d,if_neg (by rw [Nat.sub_add_cancel (by omega)]; exact h)]
     have e:(noneP (partC 65535 (a.t - 1))).dec a.v = none:=by
      show (if a.v.size = 0 then _ else none) = none
      rw [if_neg hv]
     dsimp only
     rw [e]
   · rw [List.getElem?_eq_none (by rw [csM_length]; omega)]
def DecR (w w':World) (e:Ending) (k x:Nat) (ps:List PartN) (r:Nat):Prop :=
 ∃ M d,e = .returned (.tuple #[.agg M,.int .i64 (r:Int)]) ∧ Wider w w' ∧ RepK w.heap.size w' M d ∧ d.kind = (k:Int) ∧ d.xid = (x:Int) ∧ d.ps = ps
def RoomsB (b0:Nat) (w:World) (M:Array Value):Prop:=(∃ A n c,M[10]? = some (.slice A n c) ∧ n < 1000000 ∧ RoomB b0 w A (n * 1)) ∧ (∃ A n c,M[18]? = some (.slice A n c) ∧ n < 1000000 ∧ RoomB b0 w A (n * 2)) ∧ (∃ A n c,M[42]? = some (.slice A n c) ∧ n < 1000000 ∧ RoomB b0 w A (n * 7))
theorem RoomsB.keeps {b0:Nat} {W w:World} {M:Array Value} (h:RoomsB b0 W M) (k:Keeps b0 W w):RoomsB b0 w M:=by
 obtain ⟨⟨A,n,c,e,q,r⟩,⟨A',n',c',e',q',r'⟩,A2,n2,c2,e2,q2,r2⟩:=h
 exact ⟨⟨A,n,c,e,q,r.keeps k⟩,⟨A',n',c',e',q',r'.keeps k⟩,A2,n2,c2,e2,q2,r2.keeps k⟩
theorem RoomsB.less {b0 b1:Nat} {w:World} {M:Array Value} (h:RoomsB b0 w M) (k:b1 ≤ b0):RoomsB b1 w M:=by
 obtain ⟨⟨A,n,c,e,q,r⟩,⟨A',n',c',e',q',r'⟩,A2,n2,c2,e2,q2,r2⟩:=h
 exact ⟨⟨A,n,c,e,q,r.less k⟩,⟨A',n',c',e',q',r'.less k⟩,A2,n2,c2,e2,q2,r2.less k⟩
theorem rowGot {b0 k o j i:Nat} {w0 w':World} {M M':Array Value} (G:RowGot w0 w' k o j i M M') (hb:b0 ≤ w0.heap.size) (kp:Keeps b0 w0 w') (h:∃ A n c,M[o]? = some (.slice A n c) ∧ n < 1000000 ∧ RoomB b0 w0 A (n * j)):∃ A n c,M'[o]? = some (.slice A n c) ∧ n < 1000000 ∧ RoomB b0 w' A (n * j):=by
 unfold RowGot at G
 split at G
 · obtain ⟨A,n,c,e,q,r⟩:=G
   exact ⟨A,n,c,e,q,r.less hb⟩
 · obtain ⟨A,n,c,e,q,r⟩:=h
   exact ⟨A,n,c,G.trans e,q,r.keeps kp⟩
theorem RoomsB.got {b0 i:Nat} {w0 w':World} {M M':Array Value} (h:RoomsB b0 w0 M) (G:RowsGot w0 w' i M M') (hb:b0 ≤ w0.heap.size) (kp:Keeps b0 w0 w'):RoomsB b0 w' M' :=
 ⟨rowGot G.1 hb kp h.1,rowGot G.2.1 hb kp h.2.1,rowGot G.2.2 hb kp h.2.2⟩
theorem roomsB_head (b0 k x:Nat) (w:World):RoomsB b0 w (headM k x):=⟨⟨none,0,0,rfl,by decide,.inl rfl⟩,⟨none,0,0,rfl,by decide,.inl rfl⟩,none,0,0,rfl,by decide,.inl rfl⟩
theorem roomsB_zero (b0:Nat) (w:World):RoomsB b0 w zM:=⟨⟨none,0,0,rfl,by decide,.inl rfl⟩,⟨none,0,0,rfl,by decide,.inl rfl⟩,none,0,0,rfl,by decide,.inl rfl⟩
def DecR2 (w w':World) (e:Ending) (k x:Nat) (ps:List PartN) (r:Nat):Prop :=
 ∃ M d,e = .returned (.tuple #[.agg M,.int .i64 (r:Int)]) ∧ Wider w w' ∧ RepK w.heap.size w' M d ∧ RoomsB w.heap.size w' M ∧ d.kind = (k:Int) ∧ d.xid = (x:Int) ∧ d.ps = ps
theorem DecR2.old {w w':World} {e:Ending} {k x:Nat} {ps:List PartN} {r:Nat} (h:DecR2 w w' e k x ps r):DecR w w' e k x ps r:=by
 obtain ⟨M,d,e1,g,R,_,h1,h2,h3⟩:=h
 exact ⟨M,d,e1,g,R,h1,h2,h3⟩
theorem pdec_short (s:ByteArray) (w:World) (h:s.size < 5) :
 Calls Tryz.prog 17 #[.string s] w fun e w' => DecR2 w w' e 0 0 zeroP 4:=by
 have h0:=((Own.nil (Wider.refl w)).blk zM 51)
 have h2:=h0.head
 have hw:=h0.wider
 have c1:(s.size:Int) < 5:=by omega
 clear h0
 go_enter Tryz.func17,Tryz.ntmps17
 go_wp2_with (first
  | (with_reducible refine wpList_run_val rfl 51 #[] rfl (ps:=#[]) rfl (build0 _) ?_)
  | (with_reducible refine wpList_store_row rfl 51 (.tmp 2) (.tmp 13) rfl w.heap.size zM rfl rfl 51 zM h2 (by kernel_rfl) rfl zM_all ?_; obtain ⟨g5,h5⟩:=setRow_facts zM h2))
 have hl:=run_loadVar_row (P:=Tryz.prog) _ w.heap.size 51 51 _ (0,0) _ h5 Tryz.underlying51 rfl (by kernel_rfl)
 have W5:=g5.wider hw (by intro i m; simp only [List.mem_singleton] at m; omega)
 simp [bodyPost,results,Tryz.results17,asAddr,hl]
 exact ⟨_,_,rfl,W5,zM_repK _ _,roomsB_zero _ _,rfl,rfl,rfl⟩
theorem okA_sizes:∀ (l:List AtN) (q:Nat),okA q l = 0 → ∀ x ∈ l,x.v.size ≤ 65535 ∧ x.v.size ≠ 0
 | [],_,_,x,hx => by cases hx
 | a :: l,q,h,x,hx => by
   have h2:(if a.t ≤ q ∨ a.v.size = 0 then 3 else if 65535 < a.v.size then 5 else okA a.t l) = 0:=h
   split at h2
   · cases h2
   · rename_i c
     split at h2
     · cases h2
     · rename_i d
       rcases List.mem_cons.1 hx with rfl | hx
       · exact ⟨by omega,fun e => c (.inr e)⟩
       · exact okA_sizes l a.t h2 x hx
def GetOk (m:List AtN):Prop:=∀ (t:Nat) (q:ByteArray),(⟨t,q⟩ : AtN) ∈ m → ∀ {w:World} {B b0:Nat} {M:Array Value} {d:MsgD},w.heap[B]? = some (.cells M 51 (0,0)) → B < b0 → b0 ≤ w.heap.size → RepK b0 w M d → q.size ≤ 65535 → 1 ≤ t → t ≤ 17 →
    Calls Tryz.prog 40 #[.pointer (some ⟨B,0,none⟩),.int .u8 (t:Int),.string q] w fun e w' => ∃ r:Nat,e = .returned (.int .i64 (r:Int)) ∧ GotAt B b0 w w' M d (t - 1) q r
theorem getOk_all (m:List AtN):GetOk m:=fun t q _ => fun hB hb hz R hs h1 h2 => pget_c hB hb hz R q hs t h1 h2
def DecAt (w wr:World) (k x B6 Bz n cc:Nat) (A:Option Addr) (l:List AtN) (j:Nat):Prop :=
 ∃ M d,RepK (B6 + 1) wr M d ∧ RoomsB (B6 + 1) wr M ∧ d.kind = (k:Int) ∧ d.xid = (x:Int) ∧ readG (csM 65535 k) zeroP (l.take j) = some d.ps ∧
   Own w wr [blkT B6 M 51,rowT 89 2 (.slice A n cc) n (cellsA l),blkT Bz zM 51]
def DecS (w w':World) (e:Ending) (k x:Nat) (m:List AtN):Prop:=(∃ ps,readG (csM 65535 k) zeroP m = some ps ∧ DecR2 w w' e k x ps 0) ∨ (readG (csM 65535 k) zeroP m = none ∧ DecR2 w w' e 0 0 zeroP 3)
theorem pdec_more (s:ByteArray) (w:World) (h0:5 ≤ s.size) (h1:s.size ≤ 16384) (HK:KindsAt w) {a:UInt8} {r:List UInt8} (hL:s.data.toList = a :: r) {k x:Nat} (hk:a.toNat = k) (k1:1 ≤ k) (k2:k ≤ 46) (hx:readB (r.take 4) = x) {m:List AtN} (hd:decA [] 0 (s.extract 5 s.size).data.toList = (m,0)) (hg:GetOk m) :
 Calls Tryz.prog 17 #[.string s] w fun e w' => DecS w w' e k x m:=by
 obtain ⟨Bz,hBz⟩ : ∃ Bz,w.heap.size = Bz:=⟨_,rfl⟩
 have H0:=((Own.nil (Wider.refl w)).blk zM 51)
 rw [hBz] at H0
 obtain ⟨n,hn⟩ : ∃ n,m.length = n:=⟨_,rfl⟩
 have lr:r.length + 1 = s.size:=by rw [size_data,hL]; simp
 have k8:k < 256:=by omega
 have x32:x < 4294967296:=by
  have q:=readB_lt (r.take 4)
  rw [hx,List.length_take,Nat.min_eq_left (by omega)] at q
  exact q
 have c1:¬ (s.size:Int) < 5:=by omega
 have c2:¬ (16384:Int) < (s.size:Int):=by omega
 have s0:s[0]'(by omega) = a:=by
  have e:s[0]'(by omega) = s.data.toList[0]'(by rw [hL]; simp):=rfl
  rw [e]; simp [hL]
 have b0:(s[0]'(by omega)).toNat = k:=by rw [s0,hk]
 have zk:=fun W => known_c W k k8 (r:=true) (by simp [k1,k2])
 have zs:(s.extract 5 s.size).size < 1000000:=by rw [size_data,extract_list]; simp; omega
 have zt:=fun W => tdec_o (s.extract 5 s.size) W zs hd hn
 have ln:n ≤ 16384:=by
  have q:=decA_few hd
  have q2:(s.extract 5 s.size).size ≤ 16384:=by rw [size_data,extract_list]; simp; omega
  omega
 have zg:=fun W => getHead_c W (s.extract 0 5) a (r.take 4) (by rw [extract_list,hL]; simp) (by rw [List.length_take]; omega) hk hx
 have HD:=Lib.hid hd
 have HGO:=Lib.hid hg
 have HN:=Lib.hid hn
 have HKK:=Lib.hid HK
 clear s0 hd hn HK hx hk hg
 go_enter Tryz.func17,Tryz.ntmps17
 go_upto_region 11 with (first
  | (go_at_call 12; (with_reducible refine (zk _).mono ?_); rintro e w1 ⟨rfl,g1⟩; have H1:=H0.quiet g1)
  | (go_at_call 38; (with_reducible refine (zt _).mono ?_); rintro e w2 ⟨A,cc,rfl,g2,ho⟩; have H2:=H1.row g2 ho; clear ho)
  | (go_at_call 39; (with_reducible refine (zg _).mono ?_); rintro e w3 ⟨rfl,g3⟩; have H3:=(H2.quiet g3).blk zM 51; have h3:=H3.head)
  | (with_reducible refine wpList_store_row rfl 51 (.tmp 6) (.tmp 37) rfl w3.heap.size (headM k x) rfl rfl 51 zM h3 (by kernel_rfl) rfl (oneHead _ _) ?_; obtain ⟨g4,h4⟩:=setRow_facts (headM k x) h3))
 have H4:=H3.turn (s:=blkT w3.heap.size (headM k x) 51) g4 h4 (blk_stable _ _ _) (fun i m => ⟨.inl m,by simp only [List.mem_singleton] at m; subst m; exact (Array.getElem?_eq_some_iff.1 h4).1⟩)
 obtain ⟨W4,hW4⟩ : ∃ W4,World.setRow (w3.alloc (.cells zM 51)) w3.heap.size (headM k x) = W4:=⟨_,rfl⟩
 rw [hW4] at H4 ⊢
 obtain ⟨B6,hB6⟩ : ∃ B6,w3.heap.size = B6:=⟨_,rfl⟩
 rw [hB6] at H4 ⊢
 clear hW4 g4 h4 h3 H3 H2 H1 H0 hB6 zg zt zk
 go_wp2
 go_loopw [40] (fun i wr => ∃ j:Nat,j ≤ n ∧ i = .int .i64 (j:Int) ∧ Hid (DecAt w wr k x B6 Bz n cc A m j)) (fun i _ => n - (intOf i).toNat)
 case atStart => exact ⟨0,by omega,by simp,headM k x,headD k x,fun W _ => headM_rep W k x k8 x32,roomsB_head _ _ _ _,rfl,rfl,rfl,H4⟩
 case round =>
  obtain ⟨j,hj,hi,HA⟩:=hrel
  obtain ⟨M,d,hR,hRm,hdk,hdx,hrd,H⟩:=HA.out
  clear H4
  by_cases cj:j < n
  · have j0:(0:Int) ≤ (j:Int):=by omega
    have j1:(j:Int) < (n:Int):=by omega
    obtain ⟨y,hy⟩:=next_some m j (by rw [HN.out]; exact cj)
    obtain ⟨A',cp',ea,ha,_⟩:=atsAt_own H.second
    injection ea with ea1 ea2 ea3
    subst ea1 ea3
    cases A with
    | none => exact absurd (ha.none_ rfl) (by intro e; rw [e] at hy; simp at hy)
    | some a =>
      have hA:=ha.cell a rfl j y hy
      have hty:y.t < 256:=okA_small HD.out hy
      have hsz:=okA_sizes m 0 (decA_okA HD.out) y (List.mem_of_getElem? hy)
      have HGM:=Lib.hid (List.mem_of_getElem? hy)
      have HNX:=Lib.hid (readG_next hrd hy)
      have HST:=Lib.hid (fun e => readG_stuck hrd hy e)
      clear hy ha
      obtain ⟨t,q⟩:=y
      have ⟨q0,q1⟩:=hA
      have q2:=hA.flat
      simp only at q0 q1 q2 hty hsz
      clear hA hrd HA
      have hB:=H.head
      have hc0:=blk_cell hB 0 hR.here.c0
      rw [hdk] at hc0
      have n2:=new2 wr (.int .u8 (t:Int)) (.string q) 89
      subst hi
      go_upto_region 14 with (fail)
      have G4:=(Wider.refl wr).alloc (.cells #[.int .u8 (t:Int),.string q] 89)
      obtain ⟨w4,hw4x⟩ : ∃ w4,wr.alloc (.cells #[.int .u8 (t:Int),.string q] 89) = w4:=⟨_,rfl⟩
      rw [hw4x] at n2 G4 ⊢
      have H5:=H.quiet G4
      have hB4:=H5.head
      have hz4:=H5.drop.second
      have hw4:=H5.wider
      have R4:=hR.on (G4.keeps _)
      have HRm:=Lib.hid (hRm.keeps (G4.keeps _))
      clear hRm
      have hsz4:B6 + 1 ≤ w4.heap.size:=(Array.getElem?_eq_some_iff.1 hB4).1
      have hc04:=wkeep G4 hc0
      have ⟨n20,n21,_,_⟩:=n2
      have hb6:=(H.new _ (.head _) B6 (.head _)).1
      have hnb:∀ i ∈ [B6],w.heap.size ≤ i:=by intro i m; simp only [List.mem_singleton] at m; omega
      have hne:Bz ≠ B6:=fun e => (List.pairwise_cons.1 H.apart).1 (blkT Bz zM 51) (.tail _ (.head _)) B6 (.head _) (e ▸ .head _)
      clear hw4x n2 G4 hB hc0 q0 q1 q2
      by_cases ht:t ∈ hasL k
      · have zh:=has_c w4 k t k8 hty (HKK.out.on hw4) (r:=true) (by simp [ht])
        obtain ⟨t1,t2⟩:=hasL_between k8 ht
        have sy:=stepM_yes k8 (ps:=d.ps) (a:=⟨t,q⟩) ht
        have gc:=HGO.out t q HGM.out hB4 (Nat.lt_succ_self B6) hsz4 R4 hsz.1 t1 t2
        cases hdec:(partC 65535 (t - 1)).dec q with
        | some p =>
          have hcall:Calls Tryz.prog 40 #[.pointer (some ⟨B6,0,none⟩),.int .u8 (t:Int),.string q] w4 fun e w' => e = .returned (.int .i64 0) ∧ WBut [B6] w4 w' ∧ ∃ M',w'.heap[B6]? = some (.cells M' 51 (0,0)) ∧ RepK (B6 + 1) w' M' (d.setN (t - 1) p) ∧ RowsGot w4 w' (t - 1) M M':=gc.mono fun e w' ⟨r,he,g,hh⟩ => by
           rcases hh with ⟨p',M',e1,rfl,h5,R5⟩ | ⟨e1,_⟩
           · rw [hdec] at e1; injection e1 with e1; subst e1; exact ⟨he,g,M',h5,R5⟩
           · rw [hdec] at e1; cases e1
          obtain ⟨sp,sk,sx⟩:=setN_dec d (t - 1) (by omega) hdec
          have YES:Hid (readG (csM 65535 k) zeroP (m.take (j + 1)) = some (d.setN (t - 1) p).ps):=by
           show _ = _
           rw [HNX.out,sy,hdec,sp]; rfl
          have HK2:Hid ((d.setN (t - 1) p).kind = (k:Int) ∧ (d.setN (t - 1) p).xid = (x:Int)):=⟨sk.trans hdk,sx.trans hdx⟩
          have HH5:=Lib.hid H5
          clear gc sy sp sk sx hdec R4 H5 H hR hdk hdx
          go_wp2_with (first
           | (with_reducible refine wpList_field rfl 51 (.tmp 6) 0 rfl B6 0 0 rfl (fieldM0 _) ?_)
           | (go_at_call 34; (with_reducible refine zh.mono ?_); rintro e w5 ⟨rfl,rfl⟩)
           | (go_at_call 40; (with_reducible refine hcall.mono ?_); rintro e w6 ⟨rfl,g5,M5,h5,R5,G5⟩))
          have H6:=HH5.out.turn (s:=blkT B6 M5 51) g5 h5 (blk_stable _ _ _) (fun i m => ⟨.inl m,by simp only [List.mem_singleton] at m; subst m; exact (Array.getElem?_eq_some_iff.1 h5).1⟩)
          have RM5:=HRm.out.got G5 hsz4 (g5.keeps (Nat.lt_succ_self B6))
          go_roundw
          case rel => exact ⟨j + 1,by omega,by go_num,M5,d.setN (t - 1) p,R5,RM5,HK2.out.1,HK2.out.2,YES.out,H6⟩
          case measure => simp [intOf]; omega
        | none =>
          have hcall:Calls Tryz.prog 40 #[.pointer (some ⟨B6,0,none⟩),.int .u8 (t:Int),.string q] w4 fun e w' => ∃ r:Nat,e = .returned (.int .i64 (r:Int)) ∧ r ≠ 0 ∧ WBut [B6] w4 w':=gc.mono fun e w' ⟨r,he,g,hh⟩ => by
           rcases hh with ⟨p',M',e1,rfl,h5,R5⟩ | ⟨e1,q0⟩
           · rw [hdec] at e1; cases e1
           · exact ⟨r,he,q0,g⟩
          have NOX:Hid (readG (csM 65535 k) zeroP m = none):=HST.out (by rw [sy,hdec]; rfl)
          clear gc sy hdec R4 H5 H hR hdk hdx
          go_wp2_with (first
           | (with_reducible refine wpList_field rfl 51 (.tmp 6) 0 rfl B6 0 0 rfl (fieldM0 _) ?_)
           | (go_at_call 34; (with_reducible refine zh.mono ?_); rintro e w5 ⟨rfl,rfl⟩)
           | (go_at_call 40; (with_reducible refine hcall.mono ?_); rintro e w6 ⟨r6,rfl,r60,g5⟩; have r61:((r6:Int) == 0) = false:=(by rw [beq_eq_false_iff_ne]; omega); have hz:=but_blk hz4 g5 hne; have hwz:=g5.wider hw4 hnb)
           | (with_reducible refine wpList_run_val rfl 51 #[] rfl (ps:=#[]) rfl (build0 _) ?_)
           | (with_reducible refine wpList_store_row rfl 51 (.tmp 2) (.tmp 58) rfl Bz zM rfl rfl 51 zM hz (by kernel_rfl) rfl zM_all ?_; obtain ⟨g6,h6⟩:=setRow_facts zM hz))
          have hl:=run_loadVar_row (P:=Tryz.prog) _ Bz 51 51 _ (0,0) _ h6 Tryz.underlying51 rfl (by kernel_rfl)
          have W6:=g6.wider hwz (by intro i m; simp only [List.mem_singleton] at m; omega)
          have NO:=NOX.out
          simp [bodyPost,results,Tryz.results17,asAddr,hl]
          exact .inr ⟨NO,_,_,rfl,W6,zM_repK _ _,roomsB_zero _ _,rfl,rfl,rfl⟩
      · have zh:=has_c w4 k t k8 hty (HKK.out.on hw4) (r:=false) (by simp [ht])
        have NOX:Hid (readG (csM 65535 k) zeroP m = none):=HST.out (stepM_no hsz.2 ht)
        have hz:=hz4
        have hwz:=hw4
        clear R4 H5 H hR hdk hdx
        go_wp2_with (first
         | (with_reducible refine wpList_field rfl 51 (.tmp 6) 0 rfl B6 0 0 rfl (fieldM0 _) ?_)
         | (go_at_call 34; (with_reducible refine zh.mono ?_); rintro e w5 ⟨rfl,rfl⟩)
         | (with_reducible refine wpList_run_val rfl 51 #[] rfl (ps:=#[]) rfl (build0 _) ?_)
         | (with_reducible refine wpList_store_row rfl 51 (.tmp 2) (.tmp 58) rfl Bz zM rfl rfl 51 zM hz (by kernel_rfl) rfl zM_all ?_; obtain ⟨g6,h6⟩:=setRow_facts zM hz))
        have hl:=run_loadVar_row (P:=Tryz.prog) _ Bz 51 51 _ (0,0) _ h6 Tryz.underlying51 rfl (by kernel_rfl)
        have W6:=g6.wider hwz (by intro i m; simp only [List.mem_singleton] at m; omega)
        have NO:=NOX.out
        simp [bodyPost,results,Tryz.results17,asAddr,hl]
        exact .inr ⟨NO,_,_,rfl,W6,zM_repK _ _,roomsB_zero _ _,rfl,rfl,rfl⟩
  · obtain rfl:j = n:=by omega
    rw [List.take_of_length_le (by have:=HN.out; omega)] at hrd
    subst hi
    have hb6:=(H.new _ (.head _) B6 (.head _)).1
    have sM:=hR.here.size
    have oM:=hR.here.one
    have hB:=H.head
    have hz:=H.drop.second
    have hw:=H.wider
    have j1:¬ (j:Int) < (j:Int):=by omega
    have HRD:=Lib.hid (And.intro hrd (And.intro hdk hdx))
    have HHR:=Lib.hid hR
    have HRm:=Lib.hid hRm
    clear H hR hRm hrd hdk hdx HA
    go_wp2_with (first
     | (with_reducible refine wpList_load_row rfl 51 (.tmp 6) rfl B6 rfl 51 M (0,0) _ hB Tryz.underlying51 rfl (by rw [sM]; kernel_rfl) ?_)
     | (with_reducible refine wpList_store_row rfl 51 (.tmp 2) (.tmp 60) rfl Bz M rfl rfl 51 zM hz (by rw [sM]; kernel_rfl) (by rw [sM]; exact zM_size) oM ?_; obtain ⟨g6,h6⟩:=setRow_facts M hz))
    have hl:=run_loadVar_row (P:=Tryz.prog) _ Bz 51 51 _ (0,0) _ h6 Tryz.underlying51 rfl (by rw [sM]; kernel_rfl)
    have W6:=g6.wider hw (by intro i m; simp only [List.mem_singleton] at m; omega)
    have R6:=(HHR.out.on (g6.keeps (by omega))).less (b0:=w.heap.size) (by omega)
    have M6:=(HRm.out.keeps (g6.keeps (by omega))).less (b1:=w.heap.size) (by omega)
    have q:=HRD.out
    simp [bodyPost,results,Tryz.results17,asAddr,hl]
    exact .inl ⟨_,q.1,_,_,rfl,W6,R6,M6,q.2.1,q.2.2,rfl⟩
theorem pdec_long (s:ByteArray) (w:World) (h:16384 < s.size) (hs:s.size < 1000000) :
 Calls Tryz.prog 17 #[.string s] w fun e w' => DecR2 w w' e 0 0 zeroP 5:=by
 have H0:=((Own.nil (Wider.refl w)).blk zM 51)
 have h2:=H0.head
 have hw:=H0.wider
 have c1:¬ (s.size:Int) < 5:=by omega
 have c2:(16384:Int) < (s.size:Int):=by omega
 clear H0
 go_enter Tryz.func17,Tryz.ntmps17
 go_wp2_with (first
  | (with_reducible refine wpList_run_val rfl 51 #[] rfl (ps:=#[]) rfl (build0 _) ?_)
  | (with_reducible refine wpList_store_row rfl 51 (.tmp 2) (.tmp 18) rfl w.heap.size zM rfl rfl 51 zM h2 (by kernel_rfl) rfl zM_all ?_; obtain ⟨g5,h5⟩:=setRow_facts zM h2))
 have hl:=run_loadVar_row (P:=Tryz.prog) _ w.heap.size 51 51 _ (0,0) _ h5 Tryz.underlying51 rfl (by kernel_rfl)
 have W5:=g5.wider hw (by intro i m; simp only [List.mem_singleton] at m; omega)
 simp [bodyPost,results,Tryz.results17,asAddr,hl]
 exact ⟨_,_,rfl,W5,zM_repK _ _,roomsB_zero _ _,rfl,rfl,rfl⟩
theorem pdec_kind (s:ByteArray) (w:World) (h0:5 ≤ s.size) (h1:s.size ≤ 16384) {a:UInt8} {r:List UInt8} (hL:s.data.toList = a :: r) {k:Nat} (hk:a.toNat = k) (k9:k < 256) (kn:¬ (1 ≤ k ∧ k ≤ 46)) :
 Calls Tryz.prog 17 #[.string s] w fun e w' => DecR2 w w' e 0 0 zeroP 15:=by
 have H0:=((Own.nil (Wider.refl w)).blk zM 51)
 have h2:=H0.head
 have hw:=H0.wider
 have k8:k < 256:=by omega
 have lr:r.length + 1 = s.size:=by rw [size_data,hL]; simp
 have c1:¬ (s.size:Int) < 5:=by omega
 have c2:¬ (16384:Int) < (s.size:Int):=by omega
 have s0:s[0]'(by omega) = a:=by
  have e:s[0]'(by omega) = s.data.toList[0]'(by rw [hL]; simp):=rfl
  rw [e]; simp [hL]
 have b0:(s[0]'(by omega)).toNat = k:=by rw [s0,hk]
 have zk:=fun W => known_c W k k8 (r:=false) (by simp only [decide_eq_false kn])
 clear s0 hk
 clear H0
 go_enter Tryz.func17,Tryz.ntmps17
 go_wp2_with (first
  | (go_at_call 12; (with_reducible refine (zk _).mono ?_); rintro e w1 ⟨rfl,g1⟩; have h3:=wide_blk h2 g1; have hw3:=hw.trans g1)
  | (with_reducible refine wpList_run_val rfl 51 #[] rfl (ps:=#[]) rfl (build0 _) ?_)
  | (with_reducible refine wpList_store_row rfl 51 (.tmp 2) (.tmp 24) rfl w.heap.size zM rfl rfl 51 zM h3 (by kernel_rfl) rfl zM_all ?_; obtain ⟨g5,h5⟩:=setRow_facts zM h3))
 have hl:=run_loadVar_row (P:=Tryz.prog) _ w.heap.size 51 51 _ (0,0) _ h5 Tryz.underlying51 rfl (by kernel_rfl)
 have W5:=g5.wider hw3 (by intro i m; simp only [List.mem_singleton] at m; omega)
 simp [bodyPost,results,Tryz.results17,asAddr,hl]
 exact ⟨_,_,rfl,W5,zM_repK _ _,roomsB_zero _ _,rfl,rfl,rfl⟩
theorem pdec_bad (s:ByteArray) (w:World) (h0:5 ≤ s.size) (h1:s.size ≤ 16384) {a:UInt8} {r:List UInt8} (hL:s.data.toList = a :: r) {k:Nat} (hk:a.toNat = k) (k9:k < 256) (k1:1 ≤ k) (k2:k ≤ 46) {m:List AtN} {c:Nat} (hd:decA [] 0 (s.extract 5 s.size).data.toList = (m,c)) (hc:c ≠ 0) :
 Calls Tryz.prog 17 #[.string s] w fun e w' => DecR2 w w' e 0 0 zeroP c:=by
 have H0:=((Own.nil (Wider.refl w)).blk zM 51)
 have h2:=H0.head
 have hw:=H0.wider
 have k8:k < 256:=by omega
 have lr:r.length + 1 = s.size:=by rw [size_data,hL]; simp
 have c1:¬ (s.size:Int) < 5:=by omega
 have c2:¬ (16384:Int) < (s.size:Int):=by omega
 have s0:s[0]'(by omega) = a:=by
  have e:s[0]'(by omega) = s.data.toList[0]'(by rw [hL]; simp):=rfl
  rw [e]; simp [hL]
 have b0:(s[0]'(by omega)).toNat = k:=by rw [s0,hk]
 have zk:=fun W => known_c W k k8 (r:=true) (by simp [k1,k2])
 have zs:(s.extract 5 s.size).size < 1000000:=by rw [size_data,extract_list]; simp; omega
 have zt:=fun W => tdec_o (s.extract 5 s.size) W zs hd rfl
 have e0:((c:Int) == 0) = false:=by rw [beq_eq_false_iff_ne]; omega
 clear s0 hk hd
 clear H0
 go_enter Tryz.func17,Tryz.ntmps17
 go_wp2_with (first
  | (go_at_call 12; (with_reducible refine (zk _).mono ?_); rintro e w1 ⟨rfl,g1⟩; have h3:=wide_blk h2 g1; have hw3:=hw.trans g1)
  | (go_at_call 38; (with_reducible refine (zt _).mono ?_); rintro e w2 ⟨A,cc,rfl,g2,_⟩; have h4:=wide_blk h3 g2; have hw4:=hw3.trans g2)
  | (with_reducible refine wpList_run_val rfl 51 #[] rfl (ps:=#[]) rfl (build0 _) ?_)
  | (with_reducible refine wpList_store_row rfl 51 (.tmp 2) (.tmp 33) rfl w.heap.size zM rfl rfl 51 zM h4 (by kernel_rfl) rfl zM_all ?_; obtain ⟨g5,h5⟩:=setRow_facts zM h4))
 have hl:=run_loadVar_row (P:=Tryz.prog) _ w.heap.size 51 51 _ (0,0) _ h5 Tryz.underlying51 rfl (by kernel_rfl)
 have W5:=g5.wider hw4 (by intro i m; simp only [List.mem_singleton] at m; omega)
 simp [bodyPost,results,Tryz.results17,asAddr,hl]
 exact ⟨_,_,rfl,W5,zM_repK _ _,roomsB_zero _ _,rfl,rfl,rfl⟩
theorem DecR2.of {w w':World} {e:Ending} {k x:Nat} {ps:List PartN} {r:Nat} {p:(Nat × Nat × List PartN) × Nat} (h:DecR2 w w' e k x ps r) (hp:p = ((k,x,ps),r)):DecR2 w w' e p.1.1 p.1.2.1 p.1.2.2 p.2:=by rw [hp]; exact h
theorem pdecode_g2 (s:ByteArray) (w:World) (hs:s.size < 1000000) (HK:KindsAt w) (hg:∀ m,decA [] 0 (s.extract 5 s.size).data.toList = (m,0) → GetOk m) :
 Calls Tryz.prog 17 #[.string s] w fun e w' => DecR2 w w' e (decM s.data.toList).1.1 (decM s.data.toList).1.2.1 (decM s.data.toList).1.2.2 (decM s.data.toList).2:=by
 have hl:s.data.toList.length = s.size:=(size_data s).symm
 by_cases h5:s.size < 5
 · exact (pdec_short s w h5).mono fun e w' h => h.of (by unfold decM; rw [if_pos (by omega)])
 by_cases h6:16384 < s.size
 · exact (pdec_long s w h6 hs).mono fun e w' h => h.of (by unfold decM; rw [if_neg (by omega),if_pos (by omega)])
 obtain ⟨a,r,hL⟩ : ∃ a r,s.data.toList = a :: r:=by
  cases e:s.data.toList with
  | nil => rw [e] at hl; simp at hl; omega
  | cons a r => exact ⟨a,r,rfl⟩
 have hk:=UInt8.toNat_lt a
 have hY:(s.extract 5 s.size).data.toList = s.data.toList.drop 5:=by
  rw [extract_list,List.take_of_length_le (by omega)]
 have hh:(s.data.toList.headD 0).toNat = a.toNat:=by rw [hL]; rfl
 by_cases kn:1 ≤ a.toNat ∧ a.toNat ≤ 46
 · obtain ⟨m,c,hd⟩ : ∃ m c,decA [] 0 (s.extract 5 s.size).data.toList = (m,c):=⟨_,_,rfl⟩
   have hd2:=hd
   rw [hY] at hd2
   by_cases hc:c = 0
   · subst hc
     refine (pdec_more s w (by omega) (by omega) HK hL rfl kn.1 kn.2 rfl hd (hg m hd)).mono fun e w' h => ?_
     rcases h with ⟨ps,hp,h⟩ | ⟨hp,h⟩
     · have e:decG (csM 65535 a.toNat) (s.data.toList.drop 5) = (ps,0):=by unfold decG; rw [hd2,zeroG_csM]; simp only [if_true]; rw [hp]
       refine h.of ?_
       unfold decM
       rw [if_neg (by omega),if_neg (by omega)]
       dsimp only
       rw [hh,if_neg (by omega),e,if_pos rfl,hL]
       rfl
     · have e:decG (csM 65535 a.toNat) (s.data.toList.drop 5) = (zeroP,3):=by unfold decG; rw [hd2,zeroG_csM]; simp only [if_true]; rw [hp]
       refine h.of ?_
       unfold decM
       rw [if_neg (by omega),if_neg (by omega)]
       dsimp only
       rw [hh,if_neg (by omega),e,if_neg (by decide)]
   · refine (pdec_bad s w (by omega) (by omega) hL rfl hk kn.1 kn.2 hd hc).mono fun e w' h => ?_
     have e:decG (csM 65535 a.toNat) (s.data.toList.drop 5) = (zeroP,c):=by unfold decG; rw [hd2,zeroG_csM]; dsimp only; rw [if_neg hc]
     refine h.of ?_
     unfold decM
     rw [if_neg (by omega),if_neg (by omega)]
     dsimp only
     rw [hh,if_neg (by omega),e,if_neg hc]
 · refine (pdec_kind s w (by omega) (by omega) hL rfl hk kn).mono fun e w' h => h.of ?_
   unfold decM
   rw [if_neg (by omega),if_neg (by omega)]
   dsimp only
   rw [hh,if_pos (by omega)]
theorem pdecode_g (s:ByteArray) (w:World) (hs:s.size < 1000000) (HK:KindsAt w) (hg:∀ m,decA [] 0 (s.extract 5 s.size).data.toList = (m,0) → GetOk m) :
 Calls Tryz.prog 17 #[.string s] w fun e w' => DecR w w' e (decM s.data.toList).1.1 (decM s.data.toList).1.2.1 (decM s.data.toList).1.2.2 (decM s.data.toList).2 :=
 (pdecode_g2 s w hs HK hg).mono fun e w' h => h.old
theorem run_fieldH {P:Program} {t:TypeId} {fs:Array Field} {i:Nat} {f:Field} (hu:P.underlying t = some (.struct fs)) (hf:fs[i]? = some f) {n:Nat} (hs:(P.info? f.type).map (·.size) = some (n + 1)) (w:World) (g o:Nat) :
 (Instr.fieldAt t (.pointer (some ⟨g,o,none⟩)) i).run P w = .ok (.pointer (some ⟨g,o + f.offset,none⟩)) w:=by
 cases hi:P.info? f.type with
 | none => simp [hi] at hs
 | some j =>
   have hj:j.size = n + 1:=by simpa [hi] using hs
   simp [Instr.fieldAt,run_underlying hu,hf,Instr.sureAddr,fieldPlace,sizeOf,typeInfo,hi,hj,Addr.add]
theorem wp_fieldH {P:Program} {op:Oper} {a:Act} {w:World} {K:Act → World → Prop} {Q:Exit → Act → World → Prop} (t:TypeId) (x:Operand) (i:Nat) (hop:op.op = .fieldAddr t x i)
 (g o e:Nat) (hx:a.eval x = .pointer (some ⟨g,o,none⟩)) (hrun:∀ w:World,(Instr.fieldAt t (.pointer (some ⟨g,o,none⟩)) i).run P w = .ok (.pointer (some ⟨g,e,none⟩)) w)
 (h:K (a.put op.dst (.pointer (some ⟨g,e,none⟩))) w):op.wp P a w K Q:=by
 unfold Oper.wp execOp
 simp only [hop,hx,Sem.run_bind,hrun,Result.andThen_ok,Sem.run_pure]
 exact h
theorem wpList_fieldH {P:Program} {ops:Array Oper} {rest:List Oper} {op:Oper} {a:Act} {w:World} {Q:Exit → Act → World → Prop} (hgd:op.guard = none) (t:TypeId) (x:Operand) (i:Nat) (hop:op.op = .fieldAddr t x i)
 (g o e:Nat) (hx:a.eval x = .pointer (some ⟨g,o,none⟩)) (hrun:∀ w:World,(Instr.fieldAt t (.pointer (some ⟨g,o,none⟩)) i).run P w = .ok (.pointer (some ⟨g,e,none⟩)) w)
 (h:wpList P ops Q rest (a.put op.dst (.pointer (some ⟨g,e,none⟩))) w):wpList P ops Q (op :: rest) a w :=
 wpList_plain hgd fun _ hK => wp_fieldH t x i hop g o e hx hrun (hK _ _ h)
theorem fieldH0 (g:Nat) (w:World):(Instr.fieldAt 51 (.pointer (some ⟨g,0,none⟩)) 0).run Tryz.prog w = .ok (.pointer (some ⟨g,0,none⟩)) w:=by
 have h:=run_fieldH (P:=Tryz.prog) (i:=0) (n:=0) Tryz.underlying51 rfl (by kernel_rfl) w g 0
 simpa using h
theorem fieldH1 (g:Nat) (w:World):(Instr.fieldAt 51 (.pointer (some ⟨g,0,none⟩)) 1).run Tryz.prog w = .ok (.pointer (some ⟨g,1,none⟩)) w:=by
 have h:=run_fieldH (P:=Tryz.prog) (i:=1) (n:=0) Tryz.underlying51 rfl (by kernel_rfl) w g 0
 simpa using h
def byteX (x j:Nat):Int:=((x / 256 ^ (3 - j) % 256:Nat):Int)
def bytesX (x:Nat):List Value:=[.int .u8 (byteX x 0),.int .u8 (byteX x 1),.int .u8 (byteX x 2),.int .u8 (byteX x 3)]
theorem head_cells (k x:Nat) (hk:k < 256) (hx:x < 4294967296):Value.int .u8 (k:Int) :: (bytesX x).take 4 = cellsB (headB k x):=by
 simp only [bytesX,byteX,headB,cellsB,List.take_succ_cons,List.take_zero,List.map_cons,List.map_nil,List.cons.injEq,Value.int.injEq,true_and,and_true,UInt8.toNat_ofNat']
 exact ⟨by omega,by rw [Nat.sub_self,Nat.pow_zero,Nat.div_one]⟩
theorem putHead_h (w:World) {M:Array Value} (sM:M.size = 52) (k x:Nat) (hk:k < 256) (hx:x < 4294967296) (m0:M[0]? = some (.int .u8 (k:Int))) (m1:M[1]? = some (.int .u32 (x:Int))) {S:ByteArray} (hS:S = mkB (headB k x)) :
 Calls Tryz.prog 37 #[.agg M] w fun e w' => e = .returned (.string S) ∧ Wider w w':=by
 have H00:=(Own.nil (Wider.refl w)).blk M 51
 have g:=H00.wider
 have hA:=heap_alloc_new w (.cells M 51)
 obtain ⟨W,hW⟩ : ∃ W,w.alloc (.cells M 51) = W:=⟨_,rfl⟩
 obtain ⟨B,hB⟩ : ∃ B,w.heap.size = B:=⟨_,rfl⟩
 rw [hW] at g hA H00
 rw [hB] at hA H00
 have hc0:=blk_cell hA 0 m0
 have x0:(0:Int) ≤ (x:Int):=by omega
 have x1:(x:Int) < 4294967296:=by omega
 obtain ⟨i0,hi,hz0,hz1,hz2⟩:=infoN_parts
 have HS:=Lib.hid hS
 clear hS
 go_enter Tryz.func37,Tryz.ntmps37
 go_upto_region 1 with (fail)
 clear hW
 go_upto_region 2 with (first
  | (with_reducible refine wpList_fieldH rfl 51 (.tmp 1) 0 rfl B 0 0 rfl (fieldH0 _) ?_))
 have H1:Own w (W.alloc (.cells #[.int .u8 (k:Int)] 5)) [rowT 5 1 (.slice (some ⟨W.heap.size,0,none⟩) 1 1) 1 [.int .u8 (k:Int)],blkT B M 51] :=
  H00.make ((Wider.refl W).alloc _) ⟨rfl,.inr ⟨W.heap.size,1,#[.int .u8 (k:Int)],rfl,Nat.zero_le _,heap_alloc_new W _,Nat.le_refl _,by decide,rfl,rfl⟩⟩ (rowT_stable _ _ _ _ _) (fun i hi => by
   have e:i = W.heap.size:=by simpa [rowT,Value.ownBlock] using hi
   subst e
   exact ⟨Nat.le_refl _,by simp⟩)
 obtain ⟨W1,hW1⟩ : ∃ W1,W.alloc (.cells #[.int .u8 (k:Int)] 5) = W1:=⟨_,rfl⟩
 rw [hW1] at H1 ⊢
 obtain ⟨B1,hB1⟩ : ∃ B1,W.heap.size = B1:=⟨_,rfl⟩
 rw [hB1] at H1 ⊢
 clear hW1 hB1 H00 hA hc0
 go_wp2
 go_loopw [3,8] (fun v i wr => ∃ j:Nat,j ≤ 4 ∧ i = .int .i64 (j:Int) ∧ ∃ A c,v = .slice A (j + 1) c ∧ Own w wr [rowT 5 1 (.slice A (j + 1) c) (j + 1) (.int .u8 (k:Int) :: (bytesX x).take j),blkT B M 51]) (fun _ i _ => 4 - (intOf i).toNat)
 case atStart => exact ⟨0,by omega,by simp,_,_,rfl,H1⟩
 case round =>
  obtain ⟨j,hj,rfl,A,c,rfl,H⟩:=hrel
  have hM:=H.swap.head
  have hcx:=blk_cell hM 1 m1
  have HH:=Lib.hid H
  by_cases cj:j < 4
  · obtain ⟨p,hp⟩ : ∃ p:Nat,(3:Int) - (j:Int) = (p:Int):=⟨3 - j,by omega⟩
    have HP:=Lib.hid hp
    have p0:(0:Int) ≤ 8 * (p:Int):=by omega
    have p1:8 * (p:Int) < 32:=by omega
    have j1:(j:Int) < 4:=by omega
    obtain ⟨v,hv⟩ : ∃ v,Value.int .u8 ((x:Int) / 2 ^ (8 * p) % 256) = v:=⟨_,rfl⟩
    have H2:=HH.out.quiet ((Wider.refl wr).alloc (.cells #[Value.int .u8 ((x:Int) / 2 ^ (8 * p) % 256)] 5))
    have SIDE:=lies1 wr (Value.int .u8 ((x:Int) / 2 ^ (8 * p) % 256)) 5 rfl
    have H4:=Lib.hid H2
    have SD:=Lib.hid SIDE
    have SN:Hid ((Value.int .u8 (k:Int) :: (bytesX x).take j) ++ [Value.int .u8 ((x:Int) / 2 ^ (8 * p) % 256)] = Value.int .u8 (k:Int) :: (bytesX x).take (j + 1)):=by
     show _ = _
     obtain ⟨rfl,rfl⟩ | ⟨rfl,rfl⟩ | ⟨rfl,rfl⟩ | ⟨rfl,rfl⟩ : (j = 0 ∧ p = 3) ∨ (j = 1 ∧ p = 2) ∨ (j = 2 ∧ p = 1) ∨ (j = 3 ∧ p = 0):=by omega
     all_goals (simp [bytesX,byteX]; try omega)
    have S3:Hid (j + 1 + 1 ≤ maxLen):=by show _ ≤ maxLen; unfold maxLen; omega
    have S4:Hid ((j + 1 + 1) * 1 ≤ 140737488355328):=by show _ ≤ _; omega
    clear H H2 SIDE hv v
    go_wp2_with (first
     | (with_reducible refine wpList_fieldH rfl 51 (.tmp 1) 1 rfl B 0 1 rfl (fieldH1 _) ?_)
     | (at_builtin; refine wpList_append_thing rfl (.tmp 11) (.tmp 19) 24 rfl 5 i0 (.int .u8 0) 1 1 Tryz.underlying24 hi hz0 hz1 hz2 rfl (by decide) (.slice A (j + 1) c) (j + 1) (Value.int .u8 (k:Int) :: (bytesX x).take j) rfl H4.out (some ⟨wr.heap.size,0,none⟩) 1 1 [Value.int .u8 ((x:Int) / 2 ^ (8 * p) % 256)] rfl rfl (fun e => by cases e) (fun a e => by cases e; exact SD.out.1) SD.out.2 S3.out S4.out rfl SN.out ?_; intro B2 c2 w5 H5))
    go_roundw
    case rel => exact ⟨j + 1,by omega,by go_num,B2,c2,rfl,H5⟩
    case measure => simp [intOf]; omega
  · obtain rfl:j = 4:=by omega
    have hcv:=own_text (l:=headB k x) (by
     have q:=own_base H
     rw [head_cells k x hk hx] at q
     exact q)
    have e:=HS.out
    have HW:=Lib.hid H.wider
    clear H HH
    go_wp2
    go_ret
    exact ⟨rfl,HW.out⟩
end Go.Proofs.YtoopdhgmdjienaaGreatDoor
