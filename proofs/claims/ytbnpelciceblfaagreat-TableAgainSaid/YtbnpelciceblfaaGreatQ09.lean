/- ECodeB ECodeC ECodeD ZClone ZDel ZFrame -/
import Derived.Test.YtbnpelciceblfaaGreatQ08
import Derived.Test.YtbnpelciceblfaaGreatQ07
namespace Go.Proofs.YtbnpelciceblfaaGreat
set_option linter.unusedVariables false
open Go.ChangeShapes Go.WideShapes Go.ChangeAt Go.RowKit Go.Joins
open Tab
set_option maxHeartbeats 64000000
theorem infoE:(Tryz.prog.info? 161).map (fun i => (i.zero,i.size,i.bytes)) = some (some (.agg #[.string ⟨#[]⟩,.int .i64 0,.bool false]),3,32):=by kernel_rfl
theorem infoE_parts:∃ i,Tryz.prog.info? 161 = some i ∧ i.zero = some (.agg #[.string ⟨#[]⟩,.int .i64 0,.bool false]) ∧ i.size = 3 ∧ i.bytes = 32:=by
 have h:=infoE
 cases e:Tryz.prog.info? 161 with
 | none => rw [e] at h; cases h
 | some i =>
   rw [e] at h
   simp only [Option.map_some,Option.some.injEq,Prod.mk.injEq] at h
   exact ⟨i,rfl,h.1,h.2.1,h.2.2⟩
theorem makeE (n:Nat) (hn:n < 1000000) (w:World):(Instr.makeSlice 122 (.int .i64 (n:Int)) (.int .i64 (n:Int))).run Tryz.prog w = .ok (.slice (some ⟨w.heap.size,0,none⟩) n n) (w.alloc (.cells (ecellsE (List.replicate n none)).toArray 161)):=by
 obtain ⟨i0,hi,hz0,hz1,hz2⟩:=infoE_parts
 have h:=run_make (P:=Tryz.prog) (w:=w) 122 161 i0 (.agg #[.string ⟨#[]⟩,.int .i64 0,.bool false]) Tryz.underlying122 hi hz0 .i64 .i64 (n:Int) (n:Int) (by omega) (by omega) (by rw [hz2]; omega) (by omega)
 rw [hz1,Int.toNat_natCast] at h
 have e:madeCells (Value.agg #[.string ⟨#[]⟩,.int .i64 0,.bool false]).cells (n * 3) = (ecellsE (List.replicate n none)).toArray:=ecellsE_free n
 rw [e] at h
 exact h
theorem estore_c {V w:World} {R:List Thing} {B:Nat} {L:SlotsE} {n:Nat} (H:Own V w (blkE B L :: R)) (hL:L.length = n) (hn:n < 1000000) {k:ByteArray} {v:Int} (hk:k.size < 1000000) {p:Nat} (hl:IsLook homeE L k p) :
 Calls Tryz.prog 91 #[.slice (some ⟨B,0,none⟩) n n,.agg #[.string k,.int .i64 v,.bool true]] w fun e w' => e = .returned (.tuple #[]) ∧ Own V w' (blkE B (L.set p (some (k,v))) :: R):=by
 have hp:p < n:=by have:=hl.lt; omega
 have pL:=hl.lt
 have p0:(0:Int) ≤ (p:Int):=by omega
 have p1:(p:Int) < (n:Int):=by omega
 have H1:=H.blk #[.string k,.int .i64 v,.bool true] 161
 obtain ⟨d,hd⟩ : ∃ d,D n (homeE k n) p + 1 = d:=⟨_,rfl⟩
 have zf:=efind_c (H1.second) hL hn hk hl hd
 have HL:=Lib.hid hL
 clear H hd hL
 go_enter Tryz.func91,Tryz.ntmps91
 go_wp2_with (first
  | (go_at_call 88; ((with_reducible refine zf.mono ?_); rintro e w1 ⟨rfl,g⟩; replace H1:=H1.quiet g; have b0:=blk_cell H1.head 0 (v:=.string k) rfl; have b1:=blk_cell H1.head 1 (v:=.int .i64 v) rfl; have b2:=blk_cell H1.head 2 (v:=.bool true) rfl; obtain ⟨c0,c1,c2⟩:=slot_cells H1.second pL rfl; have f0:=blk_free H1.second (p * 3); have f1:=blk_free H1.second (p * 3 + 1); have f2:=blk_free H1.second (p * 3 + 2); replace H1:=Own.slot H1.drop pL (some (k,v)); clear g)))
 simp [bodyPost,results,Tryz.results91]
 exact H1
theorem edoubled_c {V w:World} {R:List Thing} {B:Nat} {L:SlotsE} {n:Nat} (H:Own V w (blkE B L :: R)) (hL:L.length = n) (hn:n < 400000) (hi:Inv homeE L) (hk:∀ k v,Has L k v → k.size < 1000000) :
 Calls Tryz.prog 90 #[.slice (some ⟨B,0,none⟩) n n] w fun e w' => ∃ B' N,e = .returned (.slice (some ⟨B',0,none⟩) (2 * n) (2 * n)) ∧ Moved homeE L (List.replicate (2 * n) none) N ∧ Own V w' (blkE B' N :: blkE B L :: R):=by
 have n0:(0:Int) ≤ 2 * (n:Int):=by omega
 have mk:=makeE (2 * n) (by omega)
 have e2:((2 * n:Nat):Int) = 2 * (n:Int):=by omega
 rw [e2] at mk
 have H1:=H.blk (ecellsE (List.replicate (2 * n) none)).toArray 161
 have HL:=Lib.hid hL
 have HI:=Lib.hid hi
 have HK:=Lib.hid hk
 obtain ⟨B2,hB2⟩ : ∃ B2,w.heap.size = B2:=⟨_,rfl⟩
 clear H hL e2 hi hk
 go_enter Tryz.func90,Tryz.ntmps90
 go_wp2
 go_loopw [12] (fun i wr => ∃ j:Nat,j ≤ n ∧ i = .int .i64 (j:Int) ∧ ∃ M,Hid (Moved homeE (L.take j) (List.replicate (2 * n) none) M) ∧ Own V wr (blkE B2 M :: blkE B L :: R)) (fun i _ => n - (intOf i).toNat)
 case atStart => exact ⟨0,by omega,by simp,_,by rw [List.take_zero]; exact .nil _,by rw [← hB2]; exact H1⟩
 case round =>
  clear H1 mk
  obtain ⟨j,hj,rfl,M,HM,H⟩:=hrel
  have j0:(0:Int) ≤ (j:Int):=by omega
  by_cases c:j < n
  · have j1:(j:Int) < (n:Int):=by omega
    have jL:j < L.length:=by rw [HL.out]; exact c
    have hm:Moved homeE (L.take j) (List.replicate (2 * L.length) none) M:=by rw [HL.out]; exact HM.out
    obtain ⟨x,hx⟩ : ∃ x,tk L j = x:=⟨_,rfl⟩
    obtain ⟨c0,c1,c2⟩:=slot_cells H.second jL hx
    have HX:=Lib.hid (take_slot jL hx)
    obtain ⟨hc,hml⟩:=moved_cnt HI.out hm
    cases x with
    | none =>
      have H2:=H.blk #[.string (keyO none),.int .i64 (numO none),.bool false] 161
      simp only [Option.isSome_none] at c2
      clear hx hm hc hml
      go_wp2
      go_roundw
      case rel => exact ⟨j + 1,by omega,by go_num,M,by show Moved _ _ _ _; rw [HX.out]; exact HM.out.snoc_free,H2.drop⟩
      case measure => simp [intOf]; omega
    | some y =>
      obtain ⟨k,v⟩:=y
      obtain ⟨p,hp⟩:=moved_look HI.out jL hm k
      have kz:=HK.out k v ⟨j,hx⟩
      have H2:=H.blk #[.string k,.int .i64 v,.bool true] 161
      have hml2:M.length = 2 * n:=by rw [hml,HL.out]
      have zs:=estore_c H2.swap hml2 (by omega) (v:=v) kz hp
      have HP:=Lib.hid hp
      simp only [Option.isSome_some,keyO,numO] at c0 c1 c2
      clear hx hm hc hml hp hml2 H2
      go_wp2_with (first
       | (go_at_call 91; ((with_reducible refine zs.mono ?_); rintro e w1 ⟨rfl,H2⟩)))
      go_roundw
      case rel => exact ⟨j + 1,by omega,by go_num,M.set p (some (k,v)),by show Moved _ _ _ _; rw [HX.out]; exact HM.out.snoc HP.out,H2.swap.drop⟩
      case measure => simp [intOf]; omega
  · obtain rfl:j = n:=by omega
    have hm:=HM.out
    rw [List.take_of_length_le (by rw [HL.out]; exact Nat.le_refl _)] at hm
    have HM2:=Lib.hid hm
    have i1:¬ (j:Int) < (j:Int):=by omega
    clear hm
    go_wp2
    go_ret
    exact ⟨_,rfl,_,HM2.out,H⟩
def GapAt (V wr:World) (R:List Thing) (B n e:Nat) (F:SlotsE) (a f:Nat):Prop :=
 ∃ (L:SlotsE) (m:Nat) (st:Option (ByteArray × Int)),Gap L f a e m F ∧ L.length = n ∧ (∀ k v,Has L k v → k.size < 1000000) ∧ Own V wr (blkE B (L.set f st) :: R)
theorem efree_c {V w:World} {R:List Thing} {B:Nat} {L:SlotsE} {n:Nat} (H:Own V w (blkE B L :: R)) (hL:L.length = n) (hn:n < 1000000) (g:GoodE L) {p:Nat} {k:ByteArray} {v:Int} (hp:tk L p = some (k,v)) {F:SlotsE} (hF:shut homeE L.length (L.set p none) p (nx L.length p) = F) :
 Calls Tryz.prog 89 #[.slice (some ⟨B,0,none⟩) n n,.int .i64 (p:Int)] w fun e w' => e = .returned (.tuple #[]) ∧ Own V w' (blkE B F :: R):=by
 obtain ⟨e,hg⟩:=Gap.start g hp hF
 have pl:=tk_lt hp
 have p9:p < n:=by omega
 have en:e < n:=by have:=hg.el; rw [List.length_set] at this; omega
 have HS:GapAt V w R B n e F (nx n p) p:=⟨L.set p none,L.length,some (k,v),by rw [hL] at hg ⊢; exact hg,by rw [List.length_set]; exact hL,fun k2 v2 h => by
  obtain ⟨q,hq⟩:=h
  by_cases c:p = q
  · subst c; rw [tk_set_self pl] at hq; cases hq
  · rw [tk_set_ne c] at hq; exact g.keys k2 v2 ⟨q,hq⟩,by rw [set_none_back pl hp]; exact H⟩
 have za:=eafter_c p n p9 hn
 obtain ⟨a0,ha0⟩ : ∃ a0,nx n p = a0:=⟨_,rfl⟩
 rw [ha0] at za HS
 have HS:=Lib.hid HS
 clear H hL g hp hF hg ha0 pl
 go_enter Tryz.func89,Tryz.ntmps89
 go_wp2_with (first
  | (go_at_call 93; ((with_reducible refine (za _).mono ?_); rintro e w3 ⟨rfl,rfl⟩)))
 go_loopw [1,5] (fun x y wr => ∃ a f:Nat,x = .int .i64 (a:Int) ∧ y = .int .i64 (f:Int) ∧ GapAt V wr R B n e F a f) (fun x _ _ => D n (intOf x).toNat e)
 case atStart => exact ⟨a0,p,rfl,rfl,HS.out⟩
 case round =>
  clear HS
  obtain ⟨a,f,rfl,rfl,M,m,st,hg,hM,hk,H⟩:=hrel
  have al:a < n:=by have:=hg.hole.al; omega
  have fl:f < n:=by have:=hg.hole.fl; omega
  have alM:a < (M.set f st).length:=by rw [List.length_set]; omega
  have flM:f < (M.set f st).length:=by rw [List.length_set]; omega
  have ne:=hg.hole.ne
  have a0':(0:Int) ≤ (a:Int):=by omega
  have a1':(a:Int) < (n:Int):=by omega
  have f0':(0:Int) ≤ (f:Int):=by omega
  have f1':(f:Int) < (n:Int):=by omega
  have ta:tk (M.set f st) a = tk M a:=tk_set_ne ne
  obtain ⟨x,hx⟩ : ∃ x,tk M a = x:=⟨_,rfl⟩
  rw [hx] at ta
  obtain ⟨c0,c1,c2⟩:=slot_cells H.head alM ta
  cases x with
  | none =>
    have e1:=hg.done hx
    subst e1
    obtain ⟨d0,d1,d2⟩:=slot_cells H.head flM rfl
    have k0:=blk_free H.head (f * 3)
    have k1:=blk_free H.head (f * 3 + 1)
    have k2:=blk_free H.head (f * 3 + 2)
    have H1:=Own.slot H flM none
    have hb:=hg.hole.free
    rw [List.set_set,set_back hg.hole.fl hb] at H1
    simp only [Option.isSome_none] at c2
    clear hg hx ta hM hk H hb
    go_wp2
    simp [bodyPost,results,Tryz.results89]
    exact H1
  | some y =>
    obtain ⟨k,v⟩:=y
    obtain ⟨m',rfl,hd,hmove,hstay⟩:=hg.step hx
    rw [hM] at hd hmove hstay
    have kz:=hk k v ⟨a,hx⟩
    obtain ⟨h0,hh⟩ : ∃ h0,homeE k n = h0:=⟨_,rfl⟩
    have lt0:h0 < n:=by rw [← hh]; exact homeE_lt k n (by omega)
    have zh:=ehome_c k n kz (by omega) hn hh
    rw [hh] at hmove hstay
    obtain ⟨d1,hd1⟩ : ∃ d1,D n h0 f = d1:=⟨_,rfl⟩
    obtain ⟨d2,hd2⟩ : ∃ d2,D n h0 a = d2:=⟨_,rfl⟩
    have zs1:=esteps_c h0 f n lt0 fl hn
    have zs2:=esteps_c h0 a n lt0 al hn
    rw [hd1] at hmove hstay zs1
    rw [hd2] at hmove hstay zs2
    obtain ⟨b,hb⟩ : ∃ b,nx n a = b:=⟨_,rfl⟩
    have za:=eafter_c a n al hn
    rw [hb] at za hd hmove hstay
    have HD:=Lib.hid hd
    have HM:=Lib.hid hM
    have HK:=Lib.hid hk
    have HX:=Lib.hid hx
    have aM:a < M.length:=by have:=hg.hole.al; omega
    have lM:M.length < 1000000:=by omega
    simp only [Option.isSome_some,keyO,numO] at c0 c1 c2
    clear hg hx ta hM hk hh hd hd1 hd2 hb
    by_cases c:d1 < d2
    · have hm:=hmove c
      have HG:=Lib.hid hm
      have e1:decide ((d1:Int) < (d2:Int)) = true:=decide_eq_true (by omega)
      have e2:decide (d1 < d2) = true:=decide_eq_true c
      clear hmove hstay hm
      go_wp2_with (first
       | (go_at_call 92; ((with_reducible refine (zh _).mono ?_); rintro e w1 ⟨rfl,g⟩; replace H:=H.quiet g; obtain ⟨c0,c1,c2⟩:=slot_cells H.head alM ((tk_set_ne ne).trans HX.out); simp only [Option.isSome_some,keyO,numO] at c0 c1 c2; obtain ⟨d0,d1,d2⟩:=slot_cells H.head flM rfl; have k0:=blk_free H.head (f * 3); have k1:=blk_free H.head (f * 3 + 1); have k2:=blk_free H.head (f * 3 + 2); replace H:=Own.slot H flM (some (k,v)); clear g))
       | (go_at_call 94; ((with_reducible refine (zs1 _).mono ?_); rintro e w3 ⟨rfl,rfl⟩))
       | (go_at_call 94; ((with_reducible refine (zs2 _).mono ?_); rintro e w3 ⟨rfl,rfl⟩))
       | (go_at_call 93; ((with_reducible refine (za _).mono ?_); rintro e w3 ⟨rfl,rfl⟩)))
      go_roundw
      case rel =>
       refine ⟨b,a,rfl,rfl,(M.set f (some (k,v))).set a none,m',some (k,v),HG.out,by simp [HM.out],fun k2 v2 h => ?_,?_⟩
       · obtain ⟨q,hq⟩:=h
         by_cases c1:a = q
         · subst c1; rw [tk_set_self (by simpa using aM)] at hq; cases hq
         · rw [tk_set_ne c1] at hq
           by_cases c2:f = q
           · subst c2
             rw [tk_set_self (by rw [HM.out]; exact fl)] at hq
             simp only [Option.some.injEq,Prod.mk.injEq] at hq
             rw [← hq.1]; exact kz
           · rw [tk_set_ne c2] at hq; exact HK.out k2 v2 ⟨q,hq⟩
       · rw [set_move aM HX.out ne (stale:=st)]; exact H
      case measure => simp [intOf]; have:=HD.out; omega
    · have hm:=hstay c
      have HG:=Lib.hid hm
      have e1:decide ((d1:Int) < (d2:Int)) = false:=decide_eq_false (by omega)
      have e2:decide (d1 < d2) = false:=decide_eq_false c
      clear hmove hstay hm
      go_wp2_with (first
       | (go_at_call 92; ((with_reducible refine (zh _).mono ?_); rintro e w1 ⟨rfl,g⟩; replace H:=H.quiet g; clear g))
       | (go_at_call 94; ((with_reducible refine (zs1 _).mono ?_); rintro e w3 ⟨rfl,rfl⟩))
       | (go_at_call 94; ((with_reducible refine (zs2 _).mono ?_); rintro e w3 ⟨rfl,rfl⟩))
       | (go_at_call 93; ((with_reducible refine (za _).mono ?_); rintro e w3 ⟨rfl,rfl⟩)))
      go_roundw
      case rel => exact ⟨b,f,rfl,rfl,M,m',st,HG.out,HM.out,HK.out,H⟩
      case measure => simp [intOf]; have:=HD.out; omega
abbrev mapC (B n c:Nat):Array Value:=#[.slice (some ⟨B,0,none⟩) n n,.int .i64 (c:Int)]
abbrev blkM (A B n c:Nat):Thing:=blkT A (mapC B n c) 124
def MapAt (w:World) (p:Addr) (L:SlotsE) (F:List Nat):Prop :=
 ∃ A B,p = ⟨A,0,none⟩ ∧ F = [A,B] ∧ A ≠ B ∧ w.heap[A]? = some (.cells (mapC B L.length (cnt L)) 124 (0,0)) ∧ w.heap[B]? = some (.cells (ecellsE L).toArray 161 (0,0))
abbrev mapT (p:Addr) (L:SlotsE) (F:List Nat):Thing:=(F,fun w => MapAt w p L F)
theorem mapAt_stable (p:Addr) (L:SlotsE) (F:List Nat):(mapT p L F).Stable:=by
 rintro W w ⟨A,B,rfl,rfl,ne,h1,h2⟩ k
 exact ⟨A,B,rfl,rfl,ne,(k A (by simp)).trans h1,(k B (by simp)).trans h2⟩
theorem Own.mapOpen {V w:World} {R:List Thing} {p:Addr} {L:SlotsE} {F:List Nat} (H:Own V w (mapT p L F :: R)):∃ A B,p = ⟨A,0,none⟩ ∧ Own V w (blkM A B L.length (cnt L) :: blkE B L :: R):=by
 obtain ⟨A,B,rfl,rfl,ne,h1,h2⟩:=H.head
 refine ⟨A,B,rfl,H.split (M:=[blkM A B L.length (cnt L),blkE B L]) (fun t m => ?_) (fun t m => ?_) (fun t m i hi => ?_) ?_⟩
 · simp only [List.mem_cons,List.not_mem_nil,or_false] at m
   rcases m with rfl | rfl
   · exact h1
   · exact h2
 · simp only [List.mem_cons,List.not_mem_nil,or_false] at m
   rcases m with rfl | rfl <;> exact blk_stable _ _ _
 · simp only [List.mem_cons,List.not_mem_nil,or_false] at m
   rcases m with rfl | rfl <;> (simp only [List.mem_singleton] at hi; simp [hi])
 · refine List.pairwise_cons.2 ⟨fun r m i hi => ?_,List.pairwise_singleton _ _⟩
   obtain rfl:=List.mem_singleton.1 m
   simp only [List.mem_singleton] at hi ⊢
   omega
theorem Own.mapShut {V w:World} {R:List Thing} {A B:Nat} {L:SlotsE} {n c:Nat} (hn:L.length = n) (hc:cnt L = c) (H:Own V w (blkM A B n c :: blkE B L :: R)):∃ F,Own V w (mapT ⟨A,0,none⟩ L F :: R):=by
 subst hn hc
 refine ⟨[A,B],Own.join (M:=[blkM A B L.length (cnt L),blkE B L]) H ⟨A,B,rfl,rfl,fun e => ?_,H.head,H.second⟩ (mapAt_stable _ _ _) fun i hi => ?_⟩
 · have k:=(List.pairwise_cons.1 H.apart).1 (blkE B L) (.head _) A (by simp)
   subst e
   simp at k
 · simp only [List.mem_cons,List.not_mem_nil,or_false] at hi
   rcases hi with rfl | rfl
   · exact ⟨_,.head _,by simp⟩
   · exact ⟨_,.tail _ (.head _),by simp⟩
theorem etable_c {w:World} {A B n c:Nat} (h:w.heap[A]? = some (.cells (mapC B n c) 124 (0,0))) (hn:1 ≤ n) :
 Calls Tryz.prog 87 #[.pointer (some ⟨A,0,none⟩)] w fun e w' => e = .returned (.slice (some ⟨B,0,none⟩) n n) ∧ w = w':=by
 have c0:=blk_cell h 0 (v:=.slice (some ⟨B,0,none⟩) n n) rfl
 have d0:((n:Int) == 0) = false:=by rw [beq_eq_false_iff_ne]; omega
 clear h
 go_enter Tryz.func87,Tryz.ntmps87
 go_wp2
 go_ret
 exact ⟨rfl,rfl⟩
theorem enew_1 {V w:World} {R:List Thing} (H:Own V w R):Calls Tryz.prog 52 #[] w fun e w' => ∃ p F,e = .returned (.pointer (some p)) ∧ Own V w' (mapT p (List.replicate 8 none) F :: R):=by
 have mk:=makeE 8 (by omega) w
 have H1:=((H.blk (ecellsE (List.replicate 8 none)).toArray 161).blk (mapC w.heap.size 8 0) 124)
 have hz:(w.alloc (.cells (ecellsE (List.replicate 8 none)).toArray 161)).heap.size = w.heap.size + 1:=by simp
 rw [hz] at H1
 obtain ⟨F,H2⟩:=H1.mapShut (by simp) (cnt_replicate _)
 have mk:(Instr.makeSlice 122 (.int .i64 8) (.int .i64 8)).run Tryz.prog w = .ok (.slice (some ⟨w.heap.size,0,none⟩) 8 8) (w.alloc (.cells (ecellsE (List.replicate 8 none)).toArray 161)):=mk
 clear H H1 hz
 go_enter Tryz.func52,Tryz.ntmps52
 go_wp2
 go_ret
 exact ⟨_,_,rfl,H2⟩
theorem eget_c {w:World} {p:Addr} {L:SlotsE} {F:List Nat} (h:MapAt w p L F) (g:GoodE L) (hl:L.length < 1000000) {k:ByteArray} (hk:k.size < 1000000) {v:Int} {is:Bool} (hv:GetE L k v is) :
 Calls Tryz.prog 84 #[.pointer (some p),.string k] w fun e w' => e = .returned (.tuple #[.int .i64 v,.bool is]) ∧ Wider w w':=by
 obtain ⟨A,B,rfl,rfl,ne,h1,h2⟩:=h
 obtain ⟨n,hn⟩ : ∃ n,L.length = n:=⟨_,rfl⟩
 obtain ⟨q,hq⟩:=g.look k
 have ql:=hq.lt
 obtain ⟨d,hd⟩ : ∃ d,D n (homeE k n) q + 1 = d:=⟨_,rfl⟩
 rw [hn] at h1 hl
 have zt:=etable_c h1 (by have:=g.eight; omega)
 have zf:=efind_c h2 hn hl hk hq hd
 have q0:(0:Int) ≤ (q:Int):=by omega
 have q1:(q:Int) < (n:Int):=by omega
 obtain ⟨x,hx⟩ : ∃ x,tk L q = x:=⟨_,rfl⟩
 have hv2:numO x = v ∧ x.isSome = is:=by
  rcases hq.here_ with e | ⟨u,e⟩
  · rw [hx] at e
    subst e
    rcases hv with ⟨rfl,hv⟩ | ⟨rfl,rfl,hv⟩
    · exact absurd hv (Tab.IsLook.absent g.inv hq hx v)
    · exact ⟨rfl,rfl⟩
  · rw [hx] at e
    subst e
    rcases hv with ⟨rfl,hv⟩ | ⟨rfl,rfl,hv⟩
    · exact ⟨Has.one g ⟨q,hx⟩ hv,rfl⟩
    · exact absurd ⟨q,hx⟩ (hv u)
 have HV:=Lib.hid hv2
 have HB:=Lib.hid h2
 have HX:=Lib.hid hx
 have lB:=(Array.getElem?_eq_some_iff.1 h2).1
 clear h1 h2 hq hd hn hv hv2 hx
 go_enter Tryz.func84,Tryz.ntmps84
 go_upto_region 5 with (first
  | (go_at_call 87; ((with_reducible refine zt.mono ?_); rintro e w3 ⟨rfl,rfl⟩))
  | (go_at_call 88; ((with_reducible refine zf.mono ?_); rintro e w3 ⟨rfl,H⟩; obtain ⟨c0,c1,c2⟩:=slot_cells ((wheap H lB).trans HB.out) ql HX.out; clear zf zt)))
 go_quiet (fail)
 go_wp2
 go_ret2
 exact ⟨by rw [HV.out.1,HV.out.2]; rfl,H⟩
theorem run_copy_wide {P:Program} (w:World) (dT sT ty elem:TypeId) (g n k dCap sCap:Nat) (a:Addr) (cur:Array Value) (t:TypeId) (cs:List Value)
 (hu:P.underlying dT = some (.slice elem)) (hs:(P.info? elem).map (·.size) = some k) (hg:w.heap[g]? = some (.cells cur t (0,0))) (hn:cs.length = n * k)
 (hsrc:∀ j v,cs[j]? = some v → w.cell? (a.add j) = some v) (hfit:cs.length = cur.size) (h1:∀ v ∈ cs,v.oneCell' = true) :
 (Builtin.copy_ #[dT,sT] ty #[.slice (some ⟨g,0,none⟩) n dCap,.slice (some a) n sCap]).run P w = .ok (goInt n) (w.setRow g cs.toArray):=by
 have hl:=run_loadCells_list (P:=P) w a cs hsrc
 have hst:=run_storeCells_at P g 0 t cs 0 cur w hg (by simpa using Nat.le_of_eq hfit) h1
 have e1:cur.toList.drop cs.length = []:=List.drop_eq_nil_of_le (by rw [hfit]; simp)
 rw [Nat.zero_add,Nat.zero_add,e1,List.take_zero,List.nil_append,List.append_nil] at hst
 cases hq:P.info? elem with
 | none => simp [hq] at hs
 | some i =>
   have hi:i.size = k:=by simpa [hq] using hs
   simp [Builtin.copy_,run_underlying hu,Builtin.lenOf,Builtin.firstCells,sizeOf,typeInfo,hq,hi,← hn,hl,hst]
theorem Own.setRow {V w:World} {R:List Thing} {B:Nat} {C:Array Value} {t:TypeId} (H:Own V w (blkT B C t :: R)) (C':Array Value):Own V (w.setRow B C') (blkT B C' t :: R):=by
 have hg:=H.head
 have l:(w.setRow B C').heap.size = w.heap.size:=by simp [World.setRow]
 refine H.turn ⟨rfl,rfl,Nat.le_of_eq l.symm,fun i hi hF => ?_⟩ (setRow_heap w B C C' t (0,0) hg) (blk_stable _ _ _) fun i hi => ⟨.inl hi,by rw [l]; exact (H.new _ (.head _) i hi).2⟩
 simp only [World.setRow,Array.getElem?_modify]
 rw [if_neg (fun e => hF (by rw [e]; simp))]
theorem step_copy_e {P:Program} {w w':World} {ops:Array Oper} {o:Oper} {a:Act} {K:Act → World → Prop} {Q:Exit → Act → World → Prop} {E:Prop} (hgd:o.guard = none) (s x:Operand) (t u:TypeId)
 (ho:o.op = .call { callee:=.builtin .copy,args:=#[s,x],argTypes:=#[t,u] }) {vs vx v':Value} (hs:a.eval s = vs) (hx:a.eval x = vx)
 (hr:(Builtin.copy_ #[t,u] o.type #[vs,vx]).run P w = .ok v' w') (h:K (a.put o.dst v') w'):if Region.wanted o (yielded ops a.tmps) = true then Oper.wp P o a w K Q else E:=by
 have hw:Region.wanted o (yielded ops a.tmps) = true:=by simp [Region.wanted,hgd]
 rw [if_pos hw]
 unfold Oper.wp execOp
 simp only [ho,resolve,invoke,builtin,Sem.run_bind,Sem.run_pure,Result.andThen_ok,List.map_toArray,List.map_cons,List.map_nil,hs,hx,hr]
 exact h
theorem ecopy_1 {V w:World} {R:List Thing} {p:Addr} {L:SlotsE} {F:List Nat} (H:Own V w (mapT p L F :: R)) (hl:L.length < 1000000) :
 Calls Tryz.prog 86 #[.pointer (some p)] w fun e w' => ∃ q G,e = .returned (.pointer (some q)) ∧ Own V w' (mapT q L G :: mapT p L F :: R):=by
 obtain ⟨A,B,e,h1,h2⟩ : ∃ A B,p = ⟨A,0,none⟩ ∧ w.heap[A]? = some (.cells (mapC B L.length (cnt L)) 124 (0,0)) ∧ w.heap[B]? = some (.cells (ecellsE L).toArray 161 (0,0)):=by
  obtain ⟨A,B,e,_,_,h1,h2⟩:=H.head
  exact ⟨A,B,e,h1,h2⟩
 subst e
 obtain ⟨n,hn⟩ : ∃ n,L.length = n:=⟨_,rfl⟩
 obtain ⟨c,hc⟩ : ∃ c,cnt L = c:=⟨_,rfl⟩
 rw [hn,hc] at h1
 rw [hn] at hl
 have mk:=makeE n hl
 have c0:=blk_cell h1 0 (v:=.slice (some ⟨B,0,none⟩) n n) rfl
 have c1:=blk_cell h1 1 (v:=.int .i64 (c:Int)) rfl
 have c1b:=fun o => kalloc (o:=o) c1
 have hB:=H.drop
 have H1:=((H.blk (ecellsE (List.replicate n none)).toArray 161).blk (mapC w.heap.size n c) 124).quiet (Wider.refl _).drew
 have hz:(w.alloc (.cells (ecellsE (List.replicate n none)).toArray 161)).heap.size = w.heap.size + 1:=by simp
 rw [hz] at H1
 obtain ⟨W,hW⟩ : ∃ W,((w.alloc (.cells (ecellsE (List.replicate n none)).toArray 161)).alloc (.cells (mapC w.heap.size n c) 124)).drew = W:=⟨_,rfl⟩
 have gW:Wider w W:=by rw [← hW]; exact ((Wider.refl w).alloc _).alloc _
 have gd:=gW.drew
 rw [hW] at H1
 have d0:=wkeep gW c0
 have d1:=blk_cell H1.head 0 (v:=.slice (some ⟨w.heap.size,0,none⟩) n n) rfl
 have H2:=H1.swap.quiet (Wider.refl W).drew
 have lB:=(Array.getElem?_eq_some_iff.1 h2).1
 have hrun:=run_copy_wide (P:=Tryz.prog) W.drew 122 122 3 161 w.heap.size n 3 n n ⟨B,0,none⟩ _ 161 (ecellsE L) Tryz.underlying122 (by kernel_rfl) H2.head (by rw [ecellsE_length,hn]) (fun j v hj => by
  rw [Addr.add_lit,Nat.zero_add]
  exact blk_cell ((wheap gd lB).trans h2) j (by rw [List.getElem?_toArray]; exact hj)) (by rw [List.size_toArray,ecellsE_length,ecellsE_length,hn,List.length_replicate]) (ecellsE_one L)
 have H3:=(Own.setRow H2 (ecellsE L).toArray).swap
 obtain ⟨G,H4⟩:=H3.mapShut hn hc
 clear H1 H2 H3 H h1 h2 hn hc hz gd lB hB
 go_enter Tryz.func86,Tryz.ntmps86
 go_upto_region 3 with (fail)
 go_region_law (fail)
 all_goals
  try rw [hW]
  go_upto_region 4 with (fail)
  go_region_law (refine step_copy_e rfl (.tmp 21) (.tmp 25) 122 122 rfl rfl rfl hrun ?_)
  all_goals
   go_wp2
   go_ret
   exact ⟨_,_,rfl,H4⟩
end Go.Proofs.YtbnpelciceblfaaGreat
namespace Go.Proofs.YtbnpelciceblfaaGreat
set_option linter.unusedVariables false
open Go.ChangeShapes Go.WideShapes Go.ChangeAt Go.RowKit Go.Joins
set_option maxHeartbeats 64000000
theorem zinfoI:(Tryz.prog.info? 3).map (fun i => (i.zero,i.size,i.bytes)) = some (some (.int .i64 0),1,8):=by kernel_rfl
set_option maxRecDepth 20000 in
theorem zcloneI_c {V w:World} {R:List Thing} (H:Own V w R) {A:Option Addr} {n c:Nat} {xs:List Value} (hn:xs.length = n) (hl:n < 100000) (h0:A = none → n = 0) (hx:∀ a,A = some a → ∀ j u,xs[j]? = some u → w.cell? (a.add j) = some u) (h1:∀ u ∈ xs,u.oneCell' = true) :
 Calls Tryz.prog 51 #[.slice A n c] w fun e w' => ∃ B c',e = .returned (.slice B n c') ∧ Own V w' (rowT 3 1 (.slice B n c') n xs :: R):=by
 obtain ⟨i0,hi,hz0,hz1,hz2⟩:=info_parts zinfoI
 have q22:∀ (W:World) (a:Option Addr) (n c n' c':Nat),(binOp .eql 34 (.slice a n c) (.slice none n' c')).run Tryz.prog W = .ok (.bool a.isNone) W:=fun W a n c n' c' => Lib.run_eql_slice_nil W _ _ a n c n' c' Tryz.underlying34
 cases A with
 | none =>
   obtain rfl:=h0 rfl
   obtain rfl:xs = []:=List.eq_nil_of_length_eq_zero (by simpa using hn)
   have HH:=Lib.hid (H.row (Wider.refl _) (World.ownsRow_nil _ _ 3 1))
   clear H hn h0 hx h1
   go_enter Tryz.func51,Tryz.ntmps51
   go_wp2
   go_ret
   exact ⟨_,_,rfl,HH.out⟩
 | some a =>
   have H1:Own V (w.alloc (.cells #[] 3)) (rowT 3 1 (.slice (some ⟨w.heap.size,0,none⟩) 0 0) 0 [] :: R):=H.row ((Wider.refl w).alloc _) (World.ownsRow_made w #[] 0 (Nat.le_refl _) (Nat.zero_le _) rfl)
   have HX:Hid (∀ b,some a = some b → ∀ j u,xs[j]? = some u → (w.alloc (.cells #[] 3)).cell? (b.add j) = some u):=Lib.hid fun b e j u hj => wkeep ((Wider.refl w).alloc _) (hx b e j u hj)
   have HN:Hid (xs.length = n * 1):=Lib.hid (by omega)
   have H11:=Lib.hid h1
   have S1:Hid (0 + n ≤ maxLen):=by show _ ≤ maxLen; unfold maxLen; omega
   have S2:Hid ((0 + n) * 8 ≤ 140737488355328):=by show _ ≤ _; omega
   clear H hn h0 hx h1
   go_enter Tryz.func51,Tryz.ntmps51
   go_wp2_with (first
    | (at_builtin; refine wpList_append_thing rfl (.tmp 5) (.tmp 6) 34 rfl 3 i0 (.int .i64 0) 1 8 Tryz.underlying34 hi hz0 hz1 hz2 rfl (by decide) (.slice (some ⟨w.heap.size,0,none⟩) 0 0) 0 [] rfl H1 (some a) n c xs rfl HN.out (fun e => by cases e) HX.out H11.out S1.out S2.out (Nat.zero_add n) rfl ?_; intro B3 c3 w5 H5))
   go_ret
   exact ⟨_,_,rfl,H5⟩
theorem zinfoU:(Tryz.prog.info? 24).map (fun i => (i.zero,i.size,i.bytes)) = some (some (.int .u64 0),1,8):=by kernel_rfl
set_option maxRecDepth 20000 in
theorem zcloneU_c {V w:World} {R:List Thing} (H:Own V w R) {A:Option Addr} {n c:Nat} {xs:List Value} (hn:xs.length = n) (hl:n < 100000) (h0:A = none → n = 0) (hx:∀ a,A = some a → ∀ j u,xs[j]? = some u → w.cell? (a.add j) = some u) (h1:∀ u ∈ xs,u.oneCell' = true) :
 Calls Tryz.prog 50 #[.slice A n c] w fun e w' => ∃ B c',e = .returned (.slice B n c') ∧ Own V w' (rowT 24 1 (.slice B n c') n xs :: R):=by
 obtain ⟨i0,hi,hz0,hz1,hz2⟩:=info_parts zinfoU
 have q22:∀ (W:World) (a:Option Addr) (n c n' c':Nat),(binOp .eql 23 (.slice a n c) (.slice none n' c')).run Tryz.prog W = .ok (.bool a.isNone) W:=fun W a n c n' c' => Lib.run_eql_slice_nil W _ _ a n c n' c' Tryz.underlying23
 cases A with
 | none =>
   obtain rfl:=h0 rfl
   obtain rfl:xs = []:=List.eq_nil_of_length_eq_zero (by simpa using hn)
   have HH:=Lib.hid (H.row (Wider.refl _) (World.ownsRow_nil _ _ 24 1))
   clear H hn h0 hx h1
   go_enter Tryz.func50,Tryz.ntmps50
   go_wp2
   go_ret
   exact ⟨_,_,rfl,HH.out⟩
 | some a =>
   have H1:Own V (w.alloc (.cells #[] 24)) (rowT 24 1 (.slice (some ⟨w.heap.size,0,none⟩) 0 0) 0 [] :: R):=H.row ((Wider.refl w).alloc _) (World.ownsRow_made w #[] 0 (Nat.le_refl _) (Nat.zero_le _) rfl)
   have HX:Hid (∀ b,some a = some b → ∀ j u,xs[j]? = some u → (w.alloc (.cells #[] 24)).cell? (b.add j) = some u):=Lib.hid fun b e j u hj => wkeep ((Wider.refl w).alloc _) (hx b e j u hj)
   have HN:Hid (xs.length = n * 1):=Lib.hid (by omega)
   have H11:=Lib.hid h1
   have S1:Hid (0 + n ≤ maxLen):=by show _ ≤ maxLen; unfold maxLen; omega
   have S2:Hid ((0 + n) * 8 ≤ 140737488355328):=by show _ ≤ _; omega
   clear H hn h0 hx h1
   go_enter Tryz.func50,Tryz.ntmps50
   go_wp2_with (first
    | (at_builtin; refine wpList_append_thing rfl (.tmp 5) (.tmp 6) 23 rfl 24 i0 (.int .u64 0) 1 8 Tryz.underlying23 hi hz0 hz1 hz2 rfl (by decide) (.slice (some ⟨w.heap.size,0,none⟩) 0 0) 0 [] rfl H1 (some a) n c xs rfl HN.out (fun e => by cases e) HX.out H11.out S1.out S2.out (Nat.zero_add n) rfl ?_; intro B3 c3 w5 H5))
   go_ret
   exact ⟨_,_,rfl,H5⟩
theorem zinfoP:(Tryz.prog.info? 207).map (fun i => (i.zero,i.size,i.bytes)) = some (some (.agg #[.string ⟨#[]⟩,.string ⟨#[]⟩,.int .i64 0,.int .i64 0,.int .i64 0]),5,56):=by kernel_rfl
set_option maxRecDepth 20000 in
theorem zcloneP_c {V w:World} {R:List Thing} (H:Own V w R) {A:Option Addr} {n c:Nat} {xs:List Value} (hn:xs.length = n * 5) (hl:n < 100000) (h0:A = none → n = 0) (hx:∀ a,A = some a → ∀ j u,xs[j]? = some u → w.cell? (a.add j) = some u) (h1:∀ u ∈ xs,u.oneCell' = true) :
 Calls Tryz.prog 160 #[.slice A n c] w fun e w' => ∃ B c',e = .returned (.slice B n c') ∧ Own V w' (rowT 207 5 (.slice B n c') n xs :: R):=by
 obtain ⟨i0,hi,hz0,hz1,hz2⟩:=info_parts zinfoP
 have q22:∀ (W:World) (a:Option Addr) (n c n' c':Nat),(binOp .eql 216 (.slice a n c) (.slice none n' c')).run Tryz.prog W = .ok (.bool a.isNone) W:=fun W a n c n' c' => Lib.run_eql_slice_nil W _ _ a n c n' c' Tryz.underlying216
 cases A with
 | none =>
   obtain rfl:=h0 rfl
   obtain rfl:xs = []:=List.eq_nil_of_length_eq_zero (by simpa using hn)
   have HH:=Lib.hid (H.row (Wider.refl _) (World.ownsRow_nil _ _ 207 5))
   clear H hn h0 hx h1
   go_enter Tryz.func160,Tryz.ntmps160
   go_wp2
   go_ret
   exact ⟨_,_,rfl,HH.out⟩
 | some a =>
   have H1:Own V (w.alloc (.cells #[] 207)) (rowT 207 5 (.slice (some ⟨w.heap.size,0,none⟩) 0 0) 0 [] :: R):=H.row ((Wider.refl w).alloc _) (World.ownsRow_made w #[] 0 (Nat.le_refl _) (Nat.zero_le _) rfl)
   have HX:Hid (∀ b,some a = some b → ∀ j u,xs[j]? = some u → (w.alloc (.cells #[] 207)).cell? (b.add j) = some u):=Lib.hid fun b e j u hj => wkeep ((Wider.refl w).alloc _) (hx b e j u hj)
   have HN:Hid (xs.length = n * 5):=Lib.hid (by omega)
   have H11:=Lib.hid h1
   have S1:Hid (0 + n ≤ maxLen):=by show _ ≤ maxLen; unfold maxLen; omega
   have S2:Hid ((0 + n) * 56 ≤ 140737488355328):=by show _ ≤ _; omega
   clear H hn h0 hx h1
   go_enter Tryz.func160,Tryz.ntmps160
   go_wp2_with (first
    | (at_builtin; refine wpList_append_thing rfl (.tmp 5) (.tmp 6) 216 rfl 207 i0 (.agg #[.string ⟨#[]⟩,.string ⟨#[]⟩,.int .i64 0,.int .i64 0,.int .i64 0]) 5 56 Tryz.underlying216 hi hz0 hz1 hz2 rfl (by decide) (.slice (some ⟨w.heap.size,0,none⟩) 0 0) 0 [] rfl H1 (some a) n c xs rfl HN.out (fun e => by cases e) HX.out H11.out S1.out S2.out (Nat.zero_add n) rfl ?_; intro B3 c3 w5 H5))
   go_ret
   exact ⟨_,_,rfl,H5⟩
theorem zinfoH:(Tryz.prog.info? 77).map (fun i => (i.zero,i.size,i.bytes)) = some (some (.agg #[.int .i64 0,.string ⟨#[]⟩,.string ⟨#[]⟩,.int .i64 0,.int .i64 0,.int .i64 0,.slice none 0 0,.int .i64 0,.int .i64 0,.int .u64 0,.bool false,.int .i64 0,.int .i64 0,.int .i64 0]),14,144):=by kernel_rfl
set_option maxRecDepth 20000 in
theorem zcloneH_c {V w:World} {R:List Thing} (H:Own V w R) {A:Option Addr} {n c:Nat} {xs:List Value} (hn:xs.length = n * 14) (hl:n < 100000) (h0:A = none → n = 0) (hx:∀ a,A = some a → ∀ j u,xs[j]? = some u → w.cell? (a.add j) = some u) (h1:∀ u ∈ xs,u.oneCell' = true) :
 Calls Tryz.prog 44 #[.slice A n c] w fun e w' => ∃ B c',e = .returned (.slice B n c') ∧ Own V w' (rowT 77 14 (.slice B n c') n xs :: R):=by
 obtain ⟨i0,hi,hz0,hz1,hz2⟩:=info_parts zinfoH
 have q22:∀ (W:World) (a:Option Addr) (n c n' c':Nat),(binOp .eql 70 (.slice a n c) (.slice none n' c')).run Tryz.prog W = .ok (.bool a.isNone) W:=fun W a n c n' c' => Lib.run_eql_slice_nil W _ _ a n c n' c' Tryz.underlying70
 cases A with
 | none =>
   obtain rfl:=h0 rfl
   obtain rfl:xs = []:=List.eq_nil_of_length_eq_zero (by simpa using hn)
   have HH:=Lib.hid (H.row (Wider.refl _) (World.ownsRow_nil _ _ 77 14))
   clear H hn h0 hx h1
   go_enter Tryz.func44,Tryz.ntmps44
   go_wp2
   go_ret
   exact ⟨_,_,rfl,HH.out⟩
 | some a =>
   have H1:Own V (w.alloc (.cells #[] 77)) (rowT 77 14 (.slice (some ⟨w.heap.size,0,none⟩) 0 0) 0 [] :: R):=H.row ((Wider.refl w).alloc _) (World.ownsRow_made w #[] 0 (Nat.le_refl _) (Nat.zero_le _) rfl)
   have HX:Hid (∀ b,some a = some b → ∀ j u,xs[j]? = some u → (w.alloc (.cells #[] 77)).cell? (b.add j) = some u):=Lib.hid fun b e j u hj => wkeep ((Wider.refl w).alloc _) (hx b e j u hj)
   have HN:Hid (xs.length = n * 14):=Lib.hid (by omega)
   have H11:=Lib.hid h1
   have S1:Hid (0 + n ≤ maxLen):=by show _ ≤ maxLen; unfold maxLen; omega
   have S2:Hid ((0 + n) * 144 ≤ 140737488355328):=by show _ ≤ _; omega
   clear H hn h0 hx h1
   go_enter Tryz.func44,Tryz.ntmps44
   go_wp2_with (first
    | (at_builtin; refine wpList_append_thing rfl (.tmp 5) (.tmp 6) 70 rfl 77 i0 (.agg #[.int .i64 0,.string ⟨#[]⟩,.string ⟨#[]⟩,.int .i64 0,.int .i64 0,.int .i64 0,.slice none 0 0,.int .i64 0,.int .i64 0,.int .u64 0,.bool false,.int .i64 0,.int .i64 0,.int .i64 0]) 14 144 Tryz.underlying70 hi hz0 hz1 hz2 rfl (by decide) (.slice (some ⟨w.heap.size,0,none⟩) 0 0) 0 [] rfl H1 (some a) n c xs rfl HN.out (fun e => by cases e) HX.out H11.out S1.out S2.out (Nat.zero_add n) rfl ?_; intro B3 c3 w5 H5))
   go_ret
   exact ⟨_,_,rfl,H5⟩
theorem infoUHd:(Tryz.prog.info? 77).map (fun i => (i.zero,i.size,i.bytes)) = some (some (.agg #[.int .i64 0,.string ⟨#[]⟩,.string ⟨#[]⟩,.int .i64 0,.int .i64 0,.int .i64 0,.slice none 0 0,.int .i64 0,.int .i64 0,.int .u64 0,.bool false,.int .i64 0,.int .i64 0,.int .i64 0]),14,144):=by kernel_rfl
theorem zeroUHd:∀ v ∈ (Builtin.zeroCells (Value.cells (.agg #[.int .i64 0,.string ⟨#[]⟩,.string ⟨#[]⟩,.int .i64 0,.int .i64 0,.int .i64 0,.slice none 0 0,.int .i64 0,.int .i64 0,.int .u64 0,.bool false,.int .i64 0,.int .i64 0,.int .i64 0])) 1).toList,v.oneCell' = true:=by
 have e:(Builtin.zeroCells (Value.cells (.agg #[.int .i64 0,.string ⟨#[]⟩,.string ⟨#[]⟩,.int .i64 0,.int .i64 0,.int .i64 0,.slice none 0 0,.int .i64 0,.int .i64 0,.int .u64 0,.bool false,.int .i64 0,.int .i64 0,.int .i64 0])) 1).toList = [.int .i64 0,.string ⟨#[]⟩,.string ⟨#[]⟩,.int .i64 0,.int .i64 0,.int .i64 0,.slice none 0 0,.int .i64 0,.int .i64 0,.int .u64 0,.bool false,.int .i64 0,.int .i64 0,.int .i64 0]:=by kernel_rfl
 rw [e]
 intro v hv
 simp only [List.mem_cons,List.not_mem_nil,or_false] at hv
 rcases hv with rfl | rfl | rfl | rfl | rfl | rfl | rfl | rfl | rfl | rfl | rfl | rfl | rfl | rfl <;> rfl
set_option maxRecDepth 20000 in
theorem udelHd_1 {V w:World} {R:List Thing} {A:Option Addr} {n c i:Nat} {xs:List Value} (H:Own V w (rowT 77 14 (.slice A n c) n xs :: R)) (h1:∀ u ∈ xs,u.oneCell' = true) (hi:i < n) (hn:n < 1000000) :
 Calls Tryz.prog 48 #[.slice A n c,.int .i64 (i:Int),.int .i64 ((i:Int) + 1)] w fun e w' => e = .returned (.slice A (n - 1) c) ∧ Own V w' (rowT 77 14 (.slice A (n - 1) c) (n - 1) (xs.take (i * 14) ++ xs.drop ((i + 1) * 14)) :: R):=by
 obtain ⟨i0,hi0,hz0,hz1,hz2⟩:=info_parts infoUHd
 have hxl:=H.head.1
 obtain ⟨g,cur,rfl,nc,cm,hcl,htk,H1⟩:=H.rowOpen (by omega)
 have hS:Tryz.prog.underlying 70 = some (.slice 77):=Tryz.underlying70
 obtain ⟨m,hm⟩ : ∃ m,n - 1 = m:=⟨_,rfl⟩
 have hnm:n = m + 1:=by omega
 obtain ⟨zs,hzs⟩ : ∃ zs,xs.drop ((i + 1) * 14) = zs:=⟨_,rfl⟩
 have zl:zs.length = (m - i) * 14:=by rw [← hzs,List.length_drop,hxl,← Nat.sub_mul,hnm]; congr 1; omega
 have zone:∀ u ∈ zs,u.oneCell' = true:=fun u hu => h1 u (by rw [← hzs] at hu; exact List.mem_of_mem_drop hu)
 obtain ⟨af,haf,haf2⟩ : ∃ af:Addr,(zs ≠ [] → af = ⟨g,(i + 1) * 14,none⟩) ∧ (if c = i + 1 then (⟨g,0,none⟩ : Addr) else ⟨g,(i + 1) * 14,none⟩) = af:=by
  refine ⟨_,fun hz => ?_,rfl⟩
  rw [if_neg]
  intro q
  have:zs.length = 0:=by rw [zl,show m - i = 0 by omega,Nat.zero_mul]
  exact hz (List.eq_nil_of_length_eq_zero this)
 have zcell:∀ j u,zs[j]? = some u → w.drew.cell? (af.add j) = some u:=fun j u hj => by
  rw [haf (fun e => by rw [e] at hj; simp at hj),Addr.add_lit]
  refine blk_cell H1.head ((i + 1) * 14 + j) ?_
  rw [List.getElem?_toArray]
  have q:=hj
  rw [← hzs,List.getElem?_drop,← htk,List.getElem?_take] at q
  split at q
  · exact q
  · cases q
 have lz:i * 14 + zs.length = m * 14:=by rw [zl,← Nat.add_mul]; congr 1; omega
 have lm:m * 14 + 14 = n * 14:=by rw [hnm,Nat.succ_mul]
 have lc:n * 14 ≤ c * 14:=Nat.mul_le_mul_right _ nc
 have r1:=run_append_room (P:=Tryz.prog) w.drew 70 70 77 i0 hS hi0 g i c cur.toArray H1.head af (m - i) (c - (i + 1)) zs (by rw [hz1]; exact zl) zcell zone (by omega) (by rw [hz1,List.size_toArray,hcl,lz]; omega)
 rw [hz1,lz,List.toList_toArray,show i + (m - i) = m by omega] at r1
 obtain ⟨c1,hc1⟩ : ∃ c1,cur.take (i * 14) ++ zs ++ cur.drop (m * 14) = c1:=⟨_,rfl⟩
 rw [hc1] at r1
 have la:(cur.take (i * 14) ++ zs).length = m * 14:=by rw [List.length_append,List.length_take,hcl]; omega
 have l1:c1.length = c * 14:=by rw [← hc1,List.length_append,la,List.length_drop,hcl]; omega
 have H2:=Own.setRowU (H1.quiet (Wider.refl w).drew) c1.toArray
 obtain ⟨W1,hW1⟩ : ∃ W1,w.drew.setRow g c1.toArray = W1:=⟨_,rfl⟩
 rw [hW1] at r1 H2
 obtain ⟨Z,hZ⟩ : ∃ Z,(Builtin.zeroCells (Value.cells (.agg #[.int .i64 0,.string ⟨#[]⟩,.string ⟨#[]⟩,.int .i64 0,.int .i64 0,.int .i64 0,.slice none 0 0,.int .i64 0,.int .i64 0,.int .u64 0,.bool false,.int .i64 0,.int .i64 0,.int .i64 0])) 1).toList = Z:=⟨_,rfl⟩
 have lZ:Z.length = 14:=by rw [← hZ,Array.length_toList,size_zeroCells]; rfl
 have r2:=run_clear_at (P:=Tryz.prog) W1 70 77 0 (.agg #[.int .i64 0,.string ⟨#[]⟩,.string ⟨#[]⟩,.int .i64 0,.int .i64 0,.int .i64 0,.slice none 0 0,.int .i64 0,.int .i64 0,.int .u64 0,.bool false,.int .i64 0,.int .i64 0,.int .i64 0]) 14 hS (Tryz.zeroValue77 _) rfl zeroUHd g (m * 14) (c - m) c1.toArray 77 H2.head (by rw [List.size_toArray,l1]; omega)
 rw [hZ,List.toList_toArray] at r2
 obtain ⟨c2,hc2⟩ : ∃ c2,c1.take (m * 14) ++ Z ++ c1.drop (m * 14 + 14) = c2:=⟨_,rfl⟩
 rw [hc2] at r2
 have H3:=Own.setRowU H2 c2.toArray
 have t1:c1.take (m * 14) = cur.take (i * 14) ++ zs:=by rw [← hc1,← la]; exact List.take_left
 have t2:cur.take (i * 14) = xs.take (i * 14):=by rw [← htk,List.take_take,Nat.min_eq_left (Nat.mul_le_mul_right _ (by omega))]
 have H4:=H3.rowShut (n:=m) (c:=c) (k:=14) (xs:=xs.take (i * 14) ++ xs.drop ((i + 1) * 14)) (by omega) cm (by rw [← hc2,List.length_append,List.length_append,lZ,t1,la,List.length_drop,l1]; omega) (by rw [← hc2,t1,List.append_assoc,hzs,← t2,← la]; exact List.take_left)
 have HF:=Lib.hid H4
 have z1:((i:Int) == (i:Int) + 1) = false:=by rw [beq_eq_false_iff_ne]; omega
 have z2:¬ ((i:Int) = (i:Int) + 1):=by omega
 have i1:(0:Int) ≤ (i:Int) + 1:=by omega
 have i2:((i:Int) + 1).toNat = i + 1:=by omega
 have i3:(i:Int) + 1 ≤ (n:Int):=by omega
 have i4:(i:Int) ≤ (i:Int) + 1:=by omega
 have i5:(n:Int) ≤ (c:Int):=by omega
 have i6:(i:Int) ≤ (n:Int):=by omega
 have i7:¬ (n = i):=by omega
 have i8:(m:Int) ≤ (n:Int):=by omega
 have i9:¬ (c = m):=by omega
 have ia:n - m = 1:=by omega
 have ib:(i:Int) ≤ (c:Int):=by omega
 have ic:n - (i + 1) = m - i:=by omega
 rw [hm]
 clear hxl hcl htk H H1 zl zone haf zcell lz lm lc hc1 la l1 H2 hW1 hZ lZ hc2 H3 t1 t2 H4 hzs h1 hS cm hz0 hz1 hz2 hi0 nc hnm hm
 by_cases q:c = i + 1
 · rw [if_pos q] at haf2
   subst haf2 q
   simp only [Nat.sub_self] at r1
   go_enter Tryz.func48,Tryz.ntmps48
   go_wp2
   go_region_law (refine step_append_u rfl (.tmp 22) (.tmp 25) 70 70 rfl (by simp [Act.eval,Act.put]) (by simp [Act.eval,Act.put]) r1 ?_)
   all_goals
    go_wp2_with (first
     | (at_builtin; refine wpList_clear_u _ rfl (.tmp 31) 70 rfl _ rfl r2 ?_))
    go_ret
    exact ⟨rfl,HF.out⟩
 · rw [if_neg q] at haf2
   subst haf2
   go_enter Tryz.func48,Tryz.ntmps48
   go_wp2
   go_region_law (refine step_append_u rfl (.tmp 22) (.tmp 25) 70 70 rfl (by simp [Act.eval,Act.put]) (by simp [Act.eval,Act.put]) r1 ?_)
   all_goals
    go_wp2_with (first
     | (at_builtin; refine wpList_clear_u _ rfl (.tmp 31) 70 rfl _ rfl r2 ?_))
    go_ret
    exact ⟨rfl,HF.out⟩
end Go.Proofs.YtbnpelciceblfaaGreat
namespace Go.Proofs.YtbnpelciceblfaaGreat
set_option linter.unusedVariables false
set_option maxRecDepth 20000
open Go.ChangeShapes Go.WideShapes Go.ChangeAt Go.RowKit Go.Deep
set_option maxHeartbeats 64000000
theorem open_tab2 {H:Type} {enc:TypeId × Value → H} {w:World} {base:Nat} {r:Reach} {b0:Nat} {v:Value} {d:DataW H} {p:List MemPlace} (hv:Value.okWide Tryz.prog w r b0 36 v)
 (h:DataW.Trod enc Tryz.prog w base (fun _ => true) true 36 v d p):∃ t A n c,v = .agg (tabC t (.slice A n c)) ∧ NumsAt w (.slice A n c) t.keys ∧ t.keys.length ≤ maxLen ∧ (-9223372036854775808 ≤ t.cap ∧ t.cap ≤ 9223372036854775807):=by
 obtain ⟨t,kv,rfl,hk,h1,h2,_⟩:=open_tab hv h
 obtain ⟨A,n,c,rfl,_⟩:=id hk
 exact ⟨t,A,n,c,rfl,hk,h1,h2⟩
theorem fitsN:Sh.fits Tryz.prog (.row (.int .i64)) 34 = true:=by kernel_rfl
theorem open_nums {H:Type} {enc:TypeId × Value → H} {w:World} {base:Nat} {fuel:Nat} {A:Option Addr} {len cap:Nat} {x:DataW H × List MemPlace}
 (h:DataW.trod enc Tryz.prog w base (fun _ => true) true fuel 34 [.slice A len cap] = some x):∃ zs:List Int,NumsAt w (.slice A len cap) zs ∧ zs.length ≤ maxLen:=by
 have k:=Sh.open (.row (.int .i64)) _ fuel _ _ fitsN h
 unfold Sh.ok at k
 obtain ⟨A',len',cap',l,e,hl,hc,hm,hr,he⟩:=k
 cases e
 exact ⟨l.map numU,nums_row hl hr he,by rw [List.length_map]; omega⟩
end Go.Proofs.YtbnpelciceblfaaGreat
