/- PWordsG PDocA -/
import Derived.Test.YtoopdhgmdjienaaGreatDoorPkR26
namespace Go.Proofs.YtoopdhgmdjienaaGreatDoor
set_option linter.unusedVariables false
set_option maxRecDepth 20000
open Go.ChangeShapes Go.WideShapes Go.ChangeAt Go.RowKit Go.Joins
open Go.ChangeMaps (open_string shut_string)
set_option maxHeartbeats 64000000
theorem dec_word {s:ByteArray} {v r:Nat} (h:rnumN s.data.toList 18446744073709551615 = (v,r)):cArg.dec s = if r = 0 then some [(v:Int)] else none:=by
 have e:cArg.dec s = ((if (rnumN s.data.toList topU).2 = 0 then some ((rnumN s.data.toList topU).1:Int) else none:Option Int).map fun n => [n]):=rfl
 have h2:rnumN s.data.toList topU = (v,r):=h
 rw [e,h2]
 by_cases q:r = 0
 · rw [if_pos q,if_pos q]; rfl
 · rw [if_neg q,if_neg q]; rfl
theorem words_none {s:ByteArray} {m:List ByteArray} {c:Nat} (h:decT [] 128 s.data.toList = (m,c)) (q:c ≠ 0 ∨ mapD cArg.dec m = none):lWords.dec s = none:=by
 have e:lWords.dec s = if (decT [] 128 s.data.toList).2 = 0 then (mapD cArg.dec (decT [] 128 s.data.toList).1).map ValN.lst else none:=rfl
 rw [e,h]
 rcases q with q | q
 · rw [if_neg q]
 · split
   · rw [q]; rfl
   · rfl
theorem words_some {s:ByteArray} {m:List ByteArray} {L:List (List Int)} (h:decT [] 128 s.data.toList = (m,0)) (q:mapD cArg.dec m = some L):lWords.dec s = some (.lst L):=by
 have e:lWords.dec s = if (decT [] 128 s.data.toList).2 = 0 then (mapD cArg.dec (decT [] 128 s.data.toList).1).map ValN.lst else none:=rfl
 rw [e,h,if_pos rfl,q]; rfl
theorem take_bad {m:List ByteArray} {j:Nat} {L:List (List Int)} {x:ByteArray} (h:mapD cArg.dec (m.take j) = some L) (hx:m[j]? = some x) (hn:cArg.dec x = none):mapD cArg.dec m = none:=by
 have e:m = m.take j ++ x :: m.drop (j + 1):=by
  obtain ⟨hj,rfl⟩:=List.getElem?_eq_some_iff.1 hx
  rw [← List.drop_eq_getElem_cons hj,List.take_append_drop]
 rw [e,mapD_append,h]
 simp only [Option.bind_some,mapD,hn,Option.map_none]
theorem take_good {m:List ByteArray} {j:Nat} {L:List (List Int)} {x:ByteArray} {y:List Int} (h:mapD cArg.dec (m.take j) = some L) (hx:m[j]? = some x) (hn:cArg.dec x = some y):mapD cArg.dec (m.take (j + 1)) = some (L ++ [y]):=by
 rw [take_next m j x hx,mapD_append,h]
 simp only [Option.bind_some,mapD,hn,Option.map_some]
theorem word_wf {x:List Int} (h:cArg.ok x):wfK ksArg x:=by
 obtain ⟨v,rfl,h0,h1⟩:=h
 refine ⟨rfl,fun i k n hk hn => ?_⟩
 match i,hk,hn with
 | 0,hk,hn =>
   have e1:k = .u64:=by simpa [ksArg] using hk.symm
   have e2:n = v:=by simpa using hn.symm
   subst e1 e2
   have a1:IntKind.u64.min = 0:=rfl
   have a2:IntKind.u64.max = 18446744073709551615:=rfl
   have h2:n ≤ 18446744073709551615:=h1
   simp only [Lit.wf,Bool.and_eq_true,decide_eq_true_eq]
   omega
 | i + 1,hk,hn => simp [ksArg] at hk
theorem words_len {L:List (List Int)} (h:∀ x ∈ L,cArg.ok x):(cellsK ksArg L).length = L.length:=by
 have q:=cellsK_len ksArg L fun x hx => (word_wf (h x hx)).1
 rw [q]; exact Nat.mul_one _
theorem words_set {D:Array Value} {L:List (List Int)} {n j:Nat} (hL:∀ x ∈ L,cArg.ok x) (hl:L.length = j) (hj:j < n) (hD:D.toList = cellsK ksArg L ++ List.replicate (n - j) (.int .u64 0)) (v:Int) :
 (D.setIfInBounds j (.int .u64 v)).toList = cellsK ksArg (L ++ [[v]]) ++ List.replicate (n - (j + 1)) (.int .u64 0):=by
 have e:=words_len hL
 rw [hl] at e
 obtain ⟨k,hk⟩ : ∃ k,n - j = k + 1:=⟨n - j - 1,by omega⟩
 rw [Array.toList_setIfInBounds,hD,hk,List.set_append_right _ _ (by omega),e,Nat.sub_self,List.replicate_succ,List.set_cons_zero,cellsK_snoc,show n - (j + 1) = k by omega,List.append_assoc]
 rfl
def WordsAt (w0 w':World) (s:ByteArray) (v:Value) (r:Nat):Prop :=
 (∃ A n cap,v = .slice A n cap) ∧ ((∃ L,lWords.dec s = some (.lst L) ∧ r = 0 ∧ (∀ W,Keeps w0.heap.size w' W → ∃ A n cap,RowW W v L A n cap) ∧ ∀ W,Keeps w0.heap.size w' W → ∃ A n cap,v = .slice A n cap ∧ n < 1000000 ∧ RoomB w0.heap.size W A (n * 1)) ∨ (lWords.dec s = none ∧ r ≠ 0))
def zerosU (n:Nat):Array Value:=madeCells #[.int .u64 0] (n * 1)
theorem zerosU_size (n:Nat):(zerosU n).size = n:=by simp [zerosU,madeCells]
theorem zerosU_at (n j:Nat) (h:j < n):(zerosU n)[j]? = some (.int .u64 0):=by
 have m:j % 1 = 0:=by omega
 simp [zerosU,madeCells,h,m]
theorem getWords_c (s:ByteArray) (w:World) (hs:s.size < 1000000) :
 Calls Tryz.prog 82 #[.string s] w fun e w' => ∃ (v:Value) (r:Nat),e = .returned (.tuple #[v,.int .i64 (r:Int)]) ∧ Wider w w' ∧ WordsAt w w' s v r:=by
 obtain ⟨m,c,hd⟩ : ∃ m c,decT [] 128 s.data.toList = (m,c):=⟨_,_,rfl⟩
 obtain ⟨n,hn⟩ : ∃ n,m.length = n:=⟨_,rfl⟩
 have zt:=treadlist_o s 128 128 rfl w hs (by decide) hd hn
 by_cases hc:c = 0
 · subst hc
   have n9:n ≤ 128:=by
    have q:m.length ≤ 128:=decT_most hd
    omega
   have mk:=makeArg n (by omega)
   have HD:=Lib.hid hd
   have HN:=Lib.hid hn
   clear hd hn
   go_enter Tryz.func82,Tryz.ntmps82
   go_upto_region 4 with (first
    | (go_at_call 123; (with_reducible refine zt.mono ?_); rintro e w1 ⟨A,cc,rfl,g1,ho⟩))
   have HO:=(Own.nil (Wider.refl w)).row g1 ho
   have H1:=HO.blk (zerosU n) 28
   obtain ⟨W1,hW1⟩ : ∃ W1,w1.alloc (.cells (zerosU n) 28) = W1:=⟨_,rfl⟩
   obtain ⟨Bw,hBw⟩ : ∃ Bw,w1.heap.size = Bw:=⟨_,rfl⟩
   have mk1:(Instr.makeSlice 29 (.int .i64 (n:Int)) (.int .i64 (n:Int))).run Tryz.prog w1 = .ok (.slice (some ⟨Bw,0,none⟩) n n) W1:=by rw [← hBw,← hW1]; exact mk w1
   have hbw:w.heap.size ≤ Bw:=by rw [← hBw]; exact g1.2
   rw [hW1,hBw] at H1
   have hW1:=Lib.hid hW1
   have hBw:=Lib.hid hBw
   clear ho zt mk HO
   go_wp2
   go_loopw [22] (fun i wr => ∃ j:Nat,j ≤ n ∧ i = .int .i64 (j:Int) ∧ ∃ D L,Hid (mapD cArg.dec (m.take j) = some L ∧ L.length = j ∧ D.toList = cellsK ksArg L ++ List.replicate (n - j) (.int .u64 0)) ∧ Own w wr [blkT Bw D 28,rowT 9 1 (.slice A n cc) n (cellsS m)]) (fun i _ => n - (intOf i).toNat)
   case atStart => exact ⟨0,by omega,by simp,zerosU n,[],⟨rfl,rfl,by
    apply List.ext_getElem?
    intro i
    rw [Array.getElem?_toList]
    show _ = (([] : List Value) ++ List.replicate (n - 0) (.int .u64 0))[i]?
    rw [List.nil_append,Nat.sub_zero,List.getElem?_replicate]
    by_cases q:i < n
    · rw [if_pos q,zerosU_at n i q]
    · rw [if_neg q,Array.getElem?_eq_none (by rw [zerosU_size]; omega)]⟩,H1⟩
   case round =>
    clear H1 mk1
    obtain ⟨j,hj,rfl,D,L,HL,H⟩:=hrel
    have j0:(0:Int) ≤ (j:Int):=by omega
    have hok:=(mapD_back cArg _ _ HL.out.1).1
    by_cases cj:j < n
    · have j1:(j:Int) < (n:Int):=by omega
      obtain ⟨x,hx⟩:=next_some m j (by rw [HN.out]; exact cj)
      have sz:x.size < 1000000:=item_small HD.out hs hx
      obtain ⟨v,r,hr⟩ : ∃ v r,rnumN x.data.toList 18446744073709551615 = (v,r):=⟨_,_,rfl⟩
      have zl:=fun W:World => getLong_c W x sz hr
      have hdw:=dec_word hr
      have sa:=H.swap.strs
      have dl:D.size = n:=by
       have e:=congrArg List.length HL.out.2.2
       rw [List.length_append,words_len hok,List.length_replicate,HL.out.2.1,Array.length_toList] at e
       omega
      have d0:(D[j]?).isSome = true:=by rw [Array.getElem?_eq_getElem (by omega)]; rfl
      obtain ⟨d,hdj⟩:=Option.isSome_iff_exists.1 d0
      cases A with
      | none => exact absurd (sa.none_ rfl) (by intro e; rw [e] at hx; simp at hx)
      | some a =>
        have cx:=sa.cell a rfl j x hx
        have HX:=Lib.hid hx
        have HDJ:=Lib.hid hdj
        have HOK:=Lib.hid hok
        clear sa hr hx hdj d0 hok
        by_cases q:r = 0
        · subst q
          rw [if_pos rfl] at hdw
          have HDW:=Lib.hid hdw
          clear hdw
          go_wp2_with (first
           | (go_at_call 81; (with_reducible refine (zl _).mono ?_); rintro e w2 ⟨rfl,g2⟩; replace H:=H.quiet g2; have k0:=blk_cell H.head j HDJ.out; have f0:=blk_free H.head j; clear g2))
          have H3:=H.store j (.int .u64 (v:Int))
          go_roundw
          case rel => exact ⟨j + 1,by omega,by go_num,_,L ++ [[(v:Int)]],⟨take_good HL.out.1 HX.out HDW.out,by simp [HL.out.2.1],words_set HOK.out HL.out.2.1 cj HL.out.2.2 (v:Int)⟩,H3⟩
          case measure => simp [intOf]; omega
        · rw [if_neg q] at hdw
          have bad:=words_none HD.out (.inr (take_bad HL.out.1 HX.out hdw))
          have HB:Hid (lWords.dec s = none ∧ r ≠ 0):=⟨bad,q⟩
          have q0:((r:Int) == 0) = false:=by rw [beq_eq_false_iff_ne]; omega
          clear hdw bad q
          go_wp2_with (first
           | (go_at_call 81; (with_reducible refine (zl _).mono ?_); rintro e w2 ⟨rfl,g2⟩; replace H:=H.quiet g2; have k0:=blk_cell H.head j HDJ.out; have f0:=blk_free H.head j; clear g2))
          have H3:=H.store j (.int .u64 (v:Int))
          go_ret2
          exact ⟨_,_,rfl,H3.wider,⟨_,_,_,rfl⟩,.inr HB.out⟩
    · obtain rfl:j = n:=by omega
      have e1:=HL.out.1
      rw [List.take_of_length_le (by rw [HN.out]; exact Nat.le_refl _)] at e1
      have hD:D.toList = cellsK ksArg L:=by have:=HL.out.2.2; rw [Nat.sub_self] at this; rw [this]; exact List.append_nil _
      have i1:¬ (j:Int) < (j:Int):=by omega
      have DS:Hid (D.size = j):=Lib.hid (by have e:=congrArg List.length hD; rw [words_len hok,HL.out.2.1,Array.length_toList] at e; exact e)
      have FIN:Hid (∀ W:World,W.heap[Bw]? = some (.cells D 28 (0,0)) → RowW W (.slice (some ⟨Bw,0,none⟩) j j) L (some ⟨Bw,0,none⟩) j j):=fun W h => ⟨rfl,rowK_of (fun x hx => (word_wf (hok x hx)).1) (fun e => by cases e) (fun a e t u hu => by
       obtain rfl:(⟨Bw,0,none⟩ : Addr) = a:=by injection e
       rw [Addr.add_mid,Nat.zero_add]
       exact blk_cell h t (by rw [← Array.getElem?_toList,hD]; exact hu)),HL.out.2.1,by omega,fun x hx => word_wf (hok x hx)⟩
      have HS:=Lib.hid (words_some HD.out e1)
      clear e1 hD hok
      go_wp2
      go_ret2
      exact ⟨_,0,rfl,H.wider,⟨_,_,_,rfl⟩,.inl ⟨L,HS.out,rfl,fun W k => ⟨_,_,_,FIN.out W (keep_blk H.head k hbw)⟩,fun W k => ⟨_,_,_,rfl,by omega,.inr ⟨Bw,D,_,rfl,keep_blk H.head k hbw,by rw [DS.out]; omega,hbw⟩⟩⟩⟩
 · have hnone:=words_none hd (.inl hc)
   have c0:((c:Int) == 0) = false:=by rw [beq_eq_false_iff_ne]; omega
   have HX:Hid (lWords.dec s = none ∧ c ≠ 0):=⟨hnone,hc⟩
   clear hnone hd hn hc
   go_enter Tryz.func82,Tryz.ntmps82
   go_wp2_with (first
    | (go_at_call 123; (with_reducible refine zt.mono ?_); rintro e w1 ⟨A,cc,rfl,g1,_⟩))
   go_ret2
   exact ⟨_,_,rfl,g1,⟨_,_,_,rfl⟩,.inr HX.out⟩
theorem infoW64:(Tryz.prog.info? 28).map (fun i => (i.zero,i.size,i.bytes)) = some (some (.int .u64 0),1,8):=by kernel_rfl
theorem rreadlist_o (s:ByteArray) (most:Nat) (M:Int) (hM:M = (most:Int)) (w:World) (hs:s.size < 1000000) (h9:most < 1000000) {m:List ByteArray} {r n:Nat} (hr:decT [] most s.data.toList = (m,r)) (hn:m.length = n) :
 Calls Tryz.prog 140 #[.string s,.int .i64 M] w fun e w' => ∃ A c,e = .returned (.tuple #[.slice A n c,.int .i64 (r:Int)]) ∧ Wider w w' ∧ w'.ownsRow w.heap.size 9 1 (.slice A n c) n (cellsS m):=by
 subst hM
 refine (rreadlist_c s (most:Int) w hs (by omega) (by omega) hr).mono ?_
 rintro e w1 ⟨v,rfl,g,h⟩
 rw [hn] at h
 obtain ⟨A,c,rfl⟩:=ownsRow_shape h
 exact ⟨A,c,rfl,g,h⟩
theorem rlong_c (w:World) (s:ByteArray) (hs:s.size < 1000000) {v r:Nat} (hr:rnumN s.data.toList 18446744073709551615 = (v,r)) :
 Calls Tryz.prog 92 #[.string s,.int .u64 18446744073709551615] w fun e w' => e = .returned (.tuple #[.int .u64 (v:Int),.int .i64 (r:Int)]) ∧ Wider w w' :=
 rreadnum_c s 18446744073709551615 w (by omega) (by decide) hr
def WordsW (w0 w:World) (s:ByteArray) (v:Value) (b:Bool):Prop :=
 (∃ L A n cap,lWords.dec s = some (.lst L) ∧ b = true ∧ v = .slice A n cap ∧ ∀ W,Keeps w0.heap.size w W → RowW W v L A n cap) ∨ (lWords.dec s = none ∧ b = false ∧ v = .slice none 0 0)
theorem WordsW.row {w0 w:World} {s:ByteArray} {v:Value} {b:Bool} (h:WordsW w0 w s v b):∃ L A n cap,v = .slice A n cap ∧ (∀ W,Keeps w0.heap.size w W → RowW W v L A n cap) ∧ (lWords.dec s = some (.lst L) ∧ b = true ∨ lWords.dec s = none ∧ b = false):=by
 rcases h with ⟨L,A,n,cap,e,hb,hv,r⟩ | ⟨e,hb,rfl⟩
 · exact ⟨L,A,n,cap,hv,r,.inl ⟨e,hb⟩⟩
 · exact ⟨[],none,0,0,rfl,fun W _ => ⟨rfl,⟨fun _ => rfl,fun a q => by cases q⟩,rfl,by decide,fun x hx => by cases hx⟩,.inr ⟨e,hb⟩⟩
theorem rwords_c (s:ByteArray) (w:World) (hs:s.size < 1000000) :
 Calls Tryz.prog 93 #[.string s] w fun e w' => ∃ (v:Value) (b:Bool),e = .returned (.tuple #[v,.bool b]) ∧ Wider w w' ∧ WordsW w w' s v b:=by
 obtain ⟨m,c,hd⟩ : ∃ m c,decT [] 128 s.data.toList = (m,c):=⟨_,_,rfl⟩
 obtain ⟨n,hn⟩ : ∃ n,m.length = n:=⟨_,rfl⟩
 have zt:=rreadlist_o s 128 128 rfl w hs (by decide) hd hn
 by_cases hc:c = 0
 · subst hc
   have n9:n ≤ 128:=by
    have q:m.length ≤ 128:=decT_most hd
    omega
   obtain ⟨i0,hi0,hz0,hz1,hz2⟩:=info_parts infoW64
   have HD:=Lib.hid hd
   have HN:=Lib.hid hn
   clear hd hn
   go_enter Tryz.func93,Tryz.ntmps93
   go_upto_region 4 with (first
    | (go_at_call 140; (with_reducible refine zt.mono ?_); rintro e w1 ⟨A,cc,rfl,g1,ho⟩))
   have HO:=Lib.hid ((((Own.nil (Wider.refl w)).row g1 ho).nils 28 1).perm (.swap _ _ _))
   clear ho zt g1
   go_wp2
   go_loopw [6,7] (fun u i wr => ∃ j:Nat,j ≤ n ∧ i = .int .i64 (j:Int) ∧ ∃ P c L,u = .slice P j c ∧ Hid (mapD cArg.dec (m.take j) = some L ∧ L.length = j) ∧ Hid (Own w wr [rowT 28 1 (.slice P j c) j (cellsK ksArg L),rowT 9 1 (.slice A n cc) n (cellsS m)])) (fun _ i _ => n - (intOf i).toNat)
   case atStart => exact ⟨0,by omega,by simp,none,0,[],rfl,⟨rfl,rfl⟩,HO⟩
   case round =>
    obtain ⟨j,hj,rfl,P,c,L,rfl,HL,H⟩:=hrel
    clear HO
    have hok:=(mapD_back cArg _ _ HL.out.1).1
    by_cases cj:j < n
    · have j0:(0:Int) ≤ (j:Int):=by omega
      have j1:(j:Int) < (n:Int):=by omega
      obtain ⟨x,hx⟩:=next_some m j (by rw [HN.out]; exact cj)
      have sz:x.size < 1000000:=item_small HD.out hs hx
      obtain ⟨v,r,hr⟩ : ∃ v r,rnumN x.data.toList 18446744073709551615 = (v,r):=⟨_,_,rfl⟩
      have zl:=fun W:World => rlong_c W x sz hr
      have hdw:=dec_word hr
      have sa:=H.out.swap.strs
      cases A with
      | none => exact absurd (sa.none_ rfl) (by intro e; rw [e] at hx; simp at hx)
      | some a =>
        have cx:=sa.cell a rfl j x hx
        have HX:=Lib.hid hx
        have HOK:=Lib.hid hok
        clear sa hr hx hok
        by_cases q:r = 0
        · subst q
          rw [if_pos rfl] at hdw
          have HDW:=Lib.hid hdw
          clear hdw
          have SN:Hid (cellsK ksArg L ++ [.int .u64 (v:Int)] = cellsK ksArg (L ++ [[(v:Int)]])):=by show _ = _; rw [cellsK_snoc]; rfl
          have S3:Hid (j + 1 ≤ maxLen):=by show _ ≤ maxLen; unfold maxLen; omega
          have S4:Hid ((j + 1) * 8 ≤ 140737488355328):=by show _ ≤ _; omega
          go_wp2_with (first
           | (at_builtin; refine wpList_append_thing rfl (.tmp 33) (.tmp 35) 29 rfl 28 i0 (.int .u64 0) 1 8 Tryz.underlying29 hi0 hz0 hz1 hz2 rfl (by decide) (.slice P j c) j (cellsK ksArg L) rfl HA.out (some ⟨wq.heap.size,0,none⟩) 1 1 [.int .u64 (v:Int)] rfl rfl (fun e => by cases e) (fun a e => by cases e; exact LI.out.1) LI.out.2 S3.out S4.out rfl SN.out ?_; intro B3 c3 w5 H5)
           | (go_at_call 92; (with_reducible refine (zl _).mono ?_); rintro e wq ⟨rfl,gq⟩; have HA:=Lib.hid ((H.out.quiet gq).quiet ((Wider.refl wq).alloc (.cells #[.int .u64 (v:Int)] 28))); have LI:=Lib.hid (lies1 wq (.int .u64 (v:Int)) 28 rfl)))
          go_roundw
          case rel => exact ⟨j + 1,by omega,by go_num,B3,c3,L ++ [[(v:Int)]],rfl,⟨take_good HL.out.1 HX.out HDW.out,by simp [HL.out.2]⟩,H5⟩
          case measure => simp [intOf]; omega
        · rw [if_neg q] at hdw
          have bad:=words_none HD.out (.inr (take_bad HL.out.1 HX.out hdw))
          have HB:=Lib.hid bad
          have q0:((r:Int) == 0) = false:=by rw [beq_eq_false_iff_ne]; omega
          clear hdw bad q
          go_wp2_with (first
           | (go_at_call 92; (with_reducible refine (zl _).mono ?_); rintro e wq ⟨rfl,gq⟩))
          go_ret2
          exact ⟨_,_,rfl,H.out.wider.trans gq,.inr ⟨HB.out,rfl,rfl⟩⟩
    · obtain rfl:j = n:=by omega
      have e1:=HL.out.1
      rw [List.take_of_length_le (by rw [HN.out]; exact Nat.le_refl _)] at e1
      have i1:¬ (j:Int) < (j:Int):=by omega
      have FIN:Hid (∀ W,Keeps w.heap.size wr W → RowW W (.slice P j c) L P j c):=Lib.hid fun W kp => ⟨rfl,rowK_own (ks:=ksArg) rfl (by decide) HL.out.2 (fun x hx => (word_wf (hok x hx)).1) (ownsRow_heap H.out.head fun i hi => kp.2 i (H.out.new _ (.head _) i hi).1 (H.out.new _ (.head _) i hi).2),HL.out.2,by omega,fun x hx => word_wf (hok x hx)⟩
      have HS:=Lib.hid (words_some HD.out e1)
      clear e1 hok
      go_wp2
      go_ret2
      exact ⟨_,.inr ⟨rfl,H.out.wider,.inl ⟨L,_,_,_,HS.out,rfl,rfl,FIN.out⟩⟩⟩
 · have hnone:=words_none hd (.inl hc)
   have c0:((c:Int) == 0) = false:=by rw [beq_eq_false_iff_ne]; omega
   have HX:=Lib.hid hnone
   clear hnone hd hn hc
   go_enter Tryz.func93,Tryz.ntmps93
   go_wp2_with (first
    | (go_at_call 140; (with_reducible refine zt.mono ?_); rintro e w1 ⟨A,cc,rfl,g1,_⟩))
   go_ret2
   exact ⟨_,_,rfl,g1,.inr ⟨HX.out,rfl,rfl⟩⟩
end Go.Proofs.YtoopdhgmdjienaaGreatDoor
