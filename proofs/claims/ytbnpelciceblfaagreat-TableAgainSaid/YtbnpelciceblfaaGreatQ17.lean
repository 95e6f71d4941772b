/- VSetC VSetD UIs ECodeE ECodeF -/
import Derived.Test.YtbnpelciceblfaaGreatQ16
import Derived.Test.YtbnpelciceblfaaGreatQ15
import Derived.Test.YtbnpelciceblfaaGreatQ09
namespace Go.Proofs.YtbnpelciceblfaaGreat
set_option linter.unusedVariables false
open Go.ChangeShapes Go.WideShapes Go.ChangeAt Go.RowKit Go.Joins
set_option maxHeartbeats 64000000
theorem Own.drop4 {V w:World} {a b c d:Thing} {L:List Thing} (h:Own V w (a :: b :: c :: d :: L)):Own V w (a :: b :: c :: L):=(h.perm (List.perm_middle (l₁:=[a,b,c]))).drop
variable {V w:World} {R:List Thing} {S N:Nat} {ws:List Nat} {L:List ItR}
theorem cellsR_lies (w:World) (x:ItR):(∀ a:Addr,some (⟨w.heap.size,0,none⟩ : Addr) = some a → ∀ j u,(cellsR [x])[j]? = some u → (w.alloc (.cells #[.string x.low,.string x.high,.int .i64 x.prio,.int .i64 x.v] 247)).cell? (a.add j) = some u):=fun a e j u hu => by
 cases e
 rw [Addr.add_lit,Nat.zero_add,World.cell?_alloc_new]
 simpa [cellsR,cellsOneR] using hu
set_option maxRecDepth 20000 in
theorem vput_o (h:RangIs V w R S ws L N) (hN:N < 99990) {low high:ByteArray} {prio v:Int} (hf:FormR ws ⟨low,high,prio,v⟩) {M:List ItR} (hM:butR L ⟨low,high,prio,v⟩ ++ [⟨low,high,prio,v⟩] = M) :
 Calls Tryz.prog 189 #[.pointer (some ⟨S,0,none⟩),.string low,.string high,.int .i64 prio,.int .i64 v] w fun e w' => e = .returned (.int .i64 0) ∧ RangIs V w' R S ws M (N + 1):=by
 have hl:=h.good
 have hsum:=hl.sum
 obtain ⟨k1,k2,hf3⟩:=hf
 have hf1:low.size = ws.sum:=k1
 have hf2:high.size = ws.sum:=k2
 obtain ⟨sz,hsz⟩ : ∃ sz,ws.sum = sz:=⟨_,rfl⟩
 have z0:((low.size:Int) != (sz:Int)) = false:=by rw [hf1,hsz]; simp
 have z1:((high.size:Int) != (sz:Int)) = false:=by rw [hf2,hsz]; simp
 have z2:((low.size:Int) == (sz:Int)) = true:=by rw [hf1,hsz]; simp
 have z3:((high.size:Int) == (sz:Int)) = true:=by rw [hf2,hsz]; simp
 have h1:=h.blk #[.string low,.string high,.int .i64 prio,.int .i64 v] 247
 obtain ⟨b0,b1,b2,b3⟩:=newR w ⟨low,high,prio,v⟩
 have b0:(w.alloc (.cells #[.string low,.string high,.int .i64 prio,.int .i64 v] 247)).cell? ⟨w.heap.size,0,none⟩ = some (.string low):=b0
 have b1:(w.alloc (.cells #[.string low,.string high,.int .i64 prio,.int .i64 v] 247)).cell? ⟨w.heap.size,1,none⟩ = some (.string high):=b1
 have b2:(w.alloc (.cells #[.string low,.string high,.int .i64 prio,.int .i64 v] 247)).cell? ⟨w.heap.size,2,none⟩ = some (.int .i64 prio):=b2
 have b3:(w.alloc (.cells #[.string low,.string high,.int .i64 prio,.int .i64 v] 247)).cell? ⟨w.heap.size,3,none⟩ = some (.int .i64 v):=b3
 obtain ⟨D,A,cw,c,c0,c1,c2,hW,hL⟩:=h1.look
 have zw:=vwithin_c c0 rfl hW hl.w4 hl.sum (key:=low) (x:=⟨low,high,prio,v⟩) hf1 hf1 hf2 hf3
 have zw:Calls Tryz.prog 196 #[.pointer (some ⟨S,0,none⟩),.string low,.agg #[.string low,.string high,.int .i64 prio,.int .i64 v]] (w.alloc (.cells #[.string low,.string high,.int .i64 prio,.int .i64 v] 247)) fun e w' => e = .returned (.bool true) ∧ Wider _ w':=zw
 have zd:=fun (W:World) (hW:RangIs V W (blkT w.heap.size #[.string low,.string high,.int .i64 prio,.int .i64 v] 247 :: R) S ws L N) => vdel_o hW hN (low:=low) (high:=high) (prio:=prio) rfl rfl
 have zo:∀ W,Calls Tryz.prog 197 #[.agg #[.string low,.string high,.int .i64 prio,.int .i64 v]] W fun e w' => e = .returned (.agg #[.string low,.string high,.int .i64 prio,.int .i64 v]) ∧ Wider W w':=vown_c ⟨low,high,prio,v⟩ (by show low.size < _; omega) (by show high.size < _; omega)
 have hp:=hl.put ⟨low,high,prio,v⟩ ⟨hf1,hf2,hf3⟩
 rw [hM] at hp
 have HP:=Lib.hid hp
 have HM:Hid (butR L ⟨low,high,prio,0⟩ ++ [⟨low,high,prio,v⟩] = M):=Lib.hid hM
 rw [hsz] at c1
 have HL:Hid ((butR L ⟨low,high,prio,0⟩).length < 99990):=Lib.hid (by have:=butR_len (L:=L) ⟨low,high,prio,0⟩; have:=hl.len; omega)
 have H1:=Lib.hid h1
 obtain ⟨i0,hi,hz0,hz1,hz2⟩:=info_parts infoUR
 clear h hl hsum hf1 hf2 hf3 k1 k2 h1 c0 c2 hW hL hp hM hsz
 go_enter Tryz.func189,Tryz.ntmps189
 go_upto_region 7 with (first
  | (go_at_call 196; ((with_reducible refine zw.mono ?_); rintro e w1 ⟨rfl,g⟩; have H2:=H1.out.quiet g; clear zw g))
  | (go_at_call 186; ((with_reducible refine (zd _ H2).mono ?_); rintro e w2 ⟨rfl,H3⟩; clear zd H2 b0 b1 b2 b3 H1)))
 obtain ⟨wv,iv,H4,_⟩:=H3
 obtain ⟨K,hK⟩ : ∃ K,butR L ⟨low,high,prio,0⟩ = K:=⟨_,rfl⟩
 rw [hK] at H4 HM HL
 obtain ⟨A1,cp,rfl⟩:=ownsRow_shape H4.drop.second
 obtain ⟨B9,hB9⟩ : ∃ B,w.heap.size = B:=⟨_,rfl⟩
 rw [hB9] at H4
 obtain ⟨n,hn⟩ : ∃ n,K.length = n:=⟨_,rfl⟩
 delta rowR at H4
 rw [hn] at H4 HL
 try rw [hB9]
 have c2:=blk_cell H4.head 2 (v:=.slice A1 n cp) rfl
 have b0:=blk_cell H4.drop.drop.second 0 (v:=.string low) rfl
 have b1:=blk_cell H4.drop.drop.second 1 (v:=.string high) rfl
 have b2:=blk_cell H4.drop.drop.second 2 (v:=.int .i64 prio) rfl
 have b3:=blk_cell H4.drop.drop.second 3 (v:=.int .i64 v) rfl
 have hn9:n < 99990:=HL.out
 have H5:=H4.rot3
 have HNN:=Lib.hid hn
 clear hB9 hK H4 hn c1 z0 z1 z2 z3
 have S1:Hid (n + 1 ≤ maxLen):=by show _ ≤ maxLen; unfold maxLen; omega
 have S2:Hid ((n + 1) * 48 ≤ 140737488355328):=by show _ ≤ _; omega
 go_region_law (first
  | (go_simp; go_at_call 197; ((with_reducible refine (zo _).mono ?_); rintro e w5 ⟨rfl,g⟩; have H6:=H5.quiet g; have H7:=H6.quiet ((Wider.refl w5).alloc (.cells #[.string low,.string high,.int .i64 prio,.int .i64 v] 247)); have cl:=cellsR_lies w5 ⟨low,high,prio,v⟩; replace c2:=wkeep g c2; have c3:=wkeep ((Wider.refl w5).alloc (.cells #[.string low,.string high,.int .i64 prio,.int .i64 v] 247)) c2; clear g zo H5 b0 b1 b2 b3))
  | (refine step_append_thing rfl (.tmp 51) (.tmp 54) 135 rfl 247 i0 (.agg #[.string ⟨#[]⟩,.string ⟨#[]⟩,.int .i64 0,.int .i64 0]) 4 48 Tryz.underlying135 hi hz0 hz1 hz2 rfl (by decide) (.slice A1 n cp) n (cellsR K) (by simp [Act.eval]) H7 (some ⟨w5.heap.size,0,none⟩) 1 1 (cellsR [⟨low,high,prio,v⟩]) (by simp [Act.eval]) rfl (fun e => by cases e) cl (cellsR_one _) S1.out S2.out rfl rfl ?_; intro X c9 w6 H8; have H9:=H8.rot3b; have f2:=blk_free H9.head 2; have d2:=blk_cell H9.head 2 (v:=.slice A1 n cp) rfl; have H10:=H9.store 2 (.slice X (n + 1) c9)))
 all_goals
  go_wp2
  go_ret
  refine ⟨rfl,wv,.slice X (n + 1) c9,?_,HP.out⟩
  have HH:=H10.drop4
  have e:M.length = n + 1:=by rw [← HM.out,List.length_append,HNN.out]; rfl
  delta rowR
  rw [e,← HM.out,cellsR_append]
  exact HH
theorem infoRI:(Tryz.prog.info? 3).map (fun i => (i.zero,i.size,i.bytes)) = some (some (.int .i64 0),1,8):=by kernel_rfl
set_option maxRecDepth 20000 in
theorem vcloneI_c {V w:World} {R:List Thing} (H:Own V w R) {A:Option Addr} {n c:Nat} {xs:List Value} (hn:xs.length = n) (hl:n < 100000) (h0:A = none → n = 0) (hx:∀ a,A = some a → ∀ j u,xs[j]? = some u → w.cell? (a.add j) = some u) (h1:∀ u ∈ xs,u.oneCell' = true) :
 Calls Tryz.prog 51 #[.slice A n c] w fun e w' => ∃ B c',e = .returned (.slice B n c') ∧ Own V w' (rowT 3 1 (.slice B n c') n xs :: R):=by
 obtain ⟨i0,hi,hz0,hz1,hz2⟩:=info_parts infoRI
 have q22:∀ (W:World) (a:Option Addr) (n c n' c':Nat),(binOp .eql 34 (.slice a n c) (.slice none n' c')).run Tryz.prog W = .ok (.bool a.isNone) W:=fun W a n c n' c' => Lib.run_eql_slice_nil W _ _ a n c n' c' Tryz.underlying34
 cases A with
 | none =>
   obtain rfl:=h0 rfl
   obtain rfl:xs = []:=List.eq_nil_of_length_eq_zero hn
   have HH:=Lib.hid (H.row (Wider.refl _) (World.ownsRow_nil _ _ 3 1))
   clear H hn h0 hx h1
   go_enter Tryz.func51,Tryz.ntmps51
   go_wp2
   go_ret
   exact ⟨_,_,rfl,HH.out⟩
 | some a =>
   have H1:Own V (w.alloc (.cells #[] 3)) (rowT 3 1 (.slice (some ⟨w.heap.size,0,none⟩) 0 0) 0 [] :: R):=H.row ((Wider.refl w).alloc _) (World.ownsRow_made w #[] 0 (Nat.le_refl _) (Nat.zero_le _) rfl)
   have HX:Hid (∀ b,some a = some b → ∀ j u,xs[j]? = some u → (w.alloc (.cells #[] 3)).cell? (b.add j) = some u):=Lib.hid fun b e j u hj => wkeep ((Wider.refl w).alloc _) (hx b e j u hj)
   have HN:Hid (xs.length = n * 1):=Lib.hid (by omega)
   have H11:=Lib.hid h1
   have S1:Hid (0 + n ≤ maxLen):=by show _ ≤ maxLen; unfold maxLen; omega
   have S2:Hid ((0 + n) * 8 ≤ 140737488355328):=by show _ ≤ _; omega
   clear H hn h0 hx h1
   go_enter Tryz.func51,Tryz.ntmps51
   go_wp2_with (first
    | (at_builtin; refine wpList_append_thing rfl (.tmp 5) (.tmp 6) 34 rfl 3 i0 (.int .i64 0) 1 8 Tryz.underlying34 hi hz0 hz1 hz2 rfl (by decide) (.slice (some ⟨w.heap.size,0,none⟩) 0 0) 0 [] rfl H1 (some a) n c xs rfl HN.out (fun e => by cases e) HX.out H11.out S1.out S2.out (Nat.zero_add n) rfl ?_; intro B3 c3 w5 H5))
   go_ret
   exact ⟨_,_,rfl,H5⟩
set_option maxRecDepth 20000 in
theorem vcloneR_c {V w:World} {R:List Thing} (H:Own V w R) {A:Option Addr} {n c:Nat} {xs:List Value} (hn:xs.length = n * 4) (hl:n < 100000) (h0:A = none → n = 0) (hx:∀ a,A = some a → ∀ j u,xs[j]? = some u → w.cell? (a.add j) = some u) (h1:∀ u ∈ xs,u.oneCell' = true) :
 Calls Tryz.prog 198 #[.slice A n c] w fun e w' => ∃ B c',e = .returned (.slice B n c') ∧ Own V w' (rowT 247 4 (.slice B n c') n xs :: R):=by
 obtain ⟨i0,hi,hz0,hz1,hz2⟩:=info_parts infoUR
 have q22:∀ (W:World) (a:Option Addr) (n c n' c':Nat),(binOp .eql 135 (.slice a n c) (.slice none n' c')).run Tryz.prog W = .ok (.bool a.isNone) W:=fun W a n c n' c' => Lib.run_eql_slice_nil W _ _ a n c n' c' Tryz.underlying135
 cases A with
 | none =>
   obtain rfl:=h0 rfl
   obtain rfl:xs = []:=List.eq_nil_of_length_eq_zero (by simpa using hn)
   have HH:=Lib.hid (H.row (Wider.refl _) (World.ownsRow_nil _ _ 247 4))
   clear H hn h0 hx h1
   go_enter Tryz.func198,Tryz.ntmps198
   go_wp2
   go_ret
   exact ⟨_,_,rfl,HH.out⟩
 | some a =>
   have H1:Own V (w.alloc (.cells #[] 247)) (rowT 247 4 (.slice (some ⟨w.heap.size,0,none⟩) 0 0) 0 [] :: R):=H.row ((Wider.refl w).alloc _) (World.ownsRow_made w #[] 0 (Nat.le_refl _) (Nat.zero_le _) rfl)
   have HX:Hid (∀ b,some a = some b → ∀ j u,xs[j]? = some u → (w.alloc (.cells #[] 247)).cell? (b.add j) = some u):=Lib.hid fun b e j u hj => wkeep ((Wider.refl w).alloc _) (hx b e j u hj)
   have HN:=Lib.hid hn
   have H11:=Lib.hid h1
   have S1:Hid (0 + n ≤ maxLen):=by show _ ≤ maxLen; unfold maxLen; omega
   have S2:Hid ((0 + n) * 48 ≤ 140737488355328):=by show _ ≤ _; omega
   clear H hn h0 hx h1
   go_enter Tryz.func198,Tryz.ntmps198
   go_wp2_with (first
    | (at_builtin; refine wpList_append_thing rfl (.tmp 5) (.tmp 6) 135 rfl 247 i0 (.agg #[.string ⟨#[]⟩,.string ⟨#[]⟩,.int .i64 0,.int .i64 0]) 4 48 Tryz.underlying135 hi hz0 hz1 hz2 rfl (by decide) (.slice (some ⟨w.heap.size,0,none⟩) 0 0) 0 [] rfl H1 (some a) n c xs rfl HN.out (fun e => by cases e) HX.out H11.out S1.out S2.out (Nat.zero_add n) rfl ?_; intro B3 c3 w5 H5))
   go_ret
   exact ⟨_,_,rfl,H5⟩
variable {V w:World} {R:List Thing} {S N:Nat} {ws:List Nat} {L:List ItR}
def RangTwo (V w:World) (R:List Thing) (S:Nat) (ws:List Nat) (L:List ItR) (N:Nat) (T:Nat) (us:List Nat) (M:List ItR) (K:Nat):Prop :=
 ∃ wv iv,RangIs V w (setT T wv iv us :: rowW wv us :: rowR iv M :: R) S ws L N ∧ GoodR us M K
section
variable {T K:Nat} {us:List Nat} {M:List ItR}
theorem RangTwo.swap (h:RangTwo V w R S ws L N T us M K):RangTwo V w R T us M K S ws L N:=by
 obtain ⟨wv,iv,⟨wv2,iv2,H,h1⟩,h2⟩:=h
 refine ⟨wv2,iv2,⟨wv,iv,H.perm ?_,h2⟩,h1⟩
 have p:([setT S wv2 iv2 ws,rowW wv2 ws,rowR iv2 L] ++ ([setT T wv iv us,rowW wv us,rowR iv M] ++ R)).Perm ([setT T wv iv us,rowW wv us,rowR iv M] ++ ([setT S wv2 iv2 ws,rowW wv2 ws,rowR iv2 L] ++ R)):=by
  rw [← List.append_assoc,← List.append_assoc]
  exact List.perm_append_comm.append_right R
 exact p
theorem RangTwo.quiet {w':World} (h:RangTwo V w R S ws L N T us M K) (g:Wider w w'):RangTwo V w' R S ws L N T us M K:=by
 obtain ⟨wv,iv,h1,h2⟩:=h; exact ⟨wv,iv,h1.quiet g,h2⟩
theorem RangTwo.wider (h:RangTwo V w R S ws L N T us M K):Wider V w:=by
 obtain ⟨wv,iv,h1,h2⟩:=h; exact h1.wider
theorem RangTwo.rest (h:RangTwo V w R S ws L N T us M K):Own V w R:=by
 obtain ⟨wv,iv,h1,h2⟩:=h; exact h1.rest.drop.drop.drop
set_option maxRecDepth 20000 in
theorem vcopy_o (h:RangIs V w R S ws L N) (hN:N < 99990) :
 Calls Tryz.prog 190 #[.pointer (some ⟨S,0,none⟩)] w fun e w' => ∃ T,e = .returned (.pointer (some ⟨T,0,none⟩)) ∧ RangTwo V w' R T ws L N S ws L N:=by
 have hl:=h.good
 have i0:=hl.len
 obtain ⟨wv,iv,H,_⟩:=h
 have r1:=H.second
 have r2:=H.drop.second
 obtain ⟨D,cw,rfl⟩:=ownsRow_shape r1
 obtain ⟨A,c,rfl⟩:=ownsRow_shape r2
 have c0:=blk_cell H.head 0 (v:=.slice D ws.length cw) rfl
 have c1:=blk_cell H.head 1 (v:=.int .i64 (ws.sum:Int)) rfl
 have c2:=blk_cell H.head 2 (v:=.slice A L.length c) rfl
 have hW:=widthsAt r1 rfl
 have hL:=itemsAt r2 rfl
 obtain ⟨n,hn⟩ : ∃ n,L.length = n:=⟨_,rfl⟩
 obtain ⟨m,hm⟩ : ∃ m,ws.length = m:=⟨_,rfl⟩
 have hA:∀ {c:Nat} {E:TypeId} {k:Nat} {D:Option Addr} {n:Nat} {xs:List Value} {W:World},W.ownsRow 0 E k (.slice D n c) n xs → (D = none → n = 0) ∧ ∀ a,D = some a → ∀ j u,xs[j]? = some u → W.cell? (a.add j) = some u:=fun {c E k D n xs W} h => by
  rcases h.2 with ⟨q1,q2⟩ | ⟨g,cap,cur,q,hb,hg,r⟩
  · cases q1
    have e:xs = []:=List.eq_nil_of_length_eq_zero (by rw [h.1,Nat.zero_mul])
    subst e
    exact ⟨fun _ => rfl,fun a e => by cases e⟩
  · cases q
    refine ⟨fun e => (by cases e),fun a e j u hu => ?_⟩
    cases e
    exact h.cells (g:=g) rfl j u hu
 have zi:=fun {R':List Thing} (W:World) (HW:Own w W R') => vcloneI_c (n:=m) (c:=cw) HW (A:=D) (xs:=intsW ws) (by rw [intsW_length]; exact hm) (by have:=hl.w4; omega) (fun e => hm ▸ (hA r1).1 e) (fun a e j u hj => wkeep HW.wider ((hA r1).2 a e j u hj)) (intsW_one ws)
 have zr:=fun {R':List Thing} (W:World) (HW:Own w W R') => vcloneR_c (n:=n) (c:=c) HW (A:=A) (xs:=cellsR L) (by rw [cellsR_length,hn]) (by omega) (fun e => hn ▸ (hA r2).1 e) (fun a e j u hj => wkeep HW.wider ((hA r2).2 a e j u hj)) (cellsR_one L)
 have HS:Hid (RangIs V w R S ws L N):=Lib.hid ⟨_,_,H,hl⟩
 rw [hm] at c0
 rw [hn] at c2
 have HL:=Lib.hid (And.intro hl (And.intro hm hn))
 have K:Own w w.drew []:=Own.nil (Wider.refl w).drew
 clear hA r1 r2 hW hL hl hm hn i0 H
 obtain ⟨sz,hsz⟩ : ∃ sz,ws.sum = sz:=⟨_,rfl⟩
 rw [hsz] at c1
 have HZ:=Lib.hid hsz
 have b0:=c0
 have b1:=c1
 have b2:=c2
 clear hsz
 go_enter Tryz.func190,Tryz.ntmps190
 go_upto_region 3 with (fail)
 go_region_law (first
  | (go_simp; go_at_call 51; ((with_reducible refine (zi _ K).mono ?_); rintro e w1 ⟨BI,cI,rfl,KI⟩; clear K zi; have K:=KI; clear KI; have b0:=wkeep K.wider c0; have b1:=wkeep K.wider c1; have b2:=wkeep K.wider c2))
  | (go_simp; go_at_call 198; ((with_reducible refine (zr _ K).mono ?_); rintro e w2 ⟨BR,cR,rfl,KR⟩; clear K zr; have K:=KR; clear KR; have b0:=wkeep K.wider c0; have b1:=wkeep K.wider c1; have b2:=wkeep K.wider c2)))
 all_goals
  go_wp2
  go_ret
  have K3:=K.blk #[.slice BI m cI,.int .i64 (sz:Int),.slice BR n cR] 137
  obtain ⟨hl,hm,hn⟩:=HL.out
  have e1:=HZ.out
  have h3:=HS.out.over K3
  clear c0 c1 c2 HL HZ HS K K3
  subst e1 hm hn
  refine ⟨_,rfl,RangTwo.swap ⟨.slice BI ws.length cI,.slice BR L.length cR,h3.perm ?_,hl⟩⟩
  exact List.Perm.cons _ (List.Perm.swap _ _ _)
end
end Go.Proofs.YtbnpelciceblfaaGreat
namespace Go.Proofs.YtbnpelciceblfaaGreat
set_option linter.unusedVariables false
open Go.ChangeShapes Go.WideShapes Go.ChangeAt Go.RowKit Go.Joins Go.Maps Go.ChangeMaps
set_option maxHeartbeats 64000000
def SetIs (V w:World) (R:List Thing) (S:Nat) (L:List ItN) (N:Nat):Prop:=∃ s:SetN,s.A = S ∧ Own V w (s.things ++ R) ∧ SetL s L N
theorem SetIs.quiet {V w w':World} {R:List Thing} {S:Nat} {L:List ItN} {N:Nat} (h:SetIs V w R S L N) (g:Wider w w'):SetIs V w' R S L N:=by
 obtain ⟨s,e,H,hl⟩:=h; exact ⟨s,e,H.quiet g,hl⟩
theorem SetIs.wider {V w:World} {R:List Thing} {S:Nat} {L:List ItN} {N:Nat} (h:SetIs V w R S L N):Wider V w:=by
 obtain ⟨s,e,H,hl⟩:=h; exact H.wider
theorem SetIs.perm {V w:World} {R R':List Thing} {S:Nat} {L:List ItN} {N:Nat} (h:SetIs V w R S L N) (p:R.Perm R'):SetIs V w R' S L N:=by
 obtain ⟨s,e,H,hl⟩:=h; exact ⟨s,e,H.perm (p.append_left _),hl⟩
theorem snew_c {V w:World} {R:List Thing} (H:Own V w R):Calls Tryz.prog 54 #[] w fun e w' => ∃ S:Nat,e = .returned (.pointer (some ⟨S,0,none⟩)) ∧ SetIs V w' R S [] 0 :=
 (unew_1 H).mono fun e w' ⟨s,he,h1,h2⟩ => ⟨s.A,he,s,rfl,h1,h2⟩
theorem sput_o {V w:World} {R:List Thing} {S:Nat} {L:List ItN} {N:Nat} (h:SetIs V w R S L N) (hN:N < 99990) {k m:ByteArray} {q v:Int} (hf:FormN ⟨k,m,q,v⟩) (hk:k.size < 1000000) (hm:m.size < 1000000) {M:List ItN} (hM:butL L ⟨k,m,q,v⟩ ++ [⟨k,m,q,v⟩] = M) :
 Calls Tryz.prog 136 #[.pointer (some ⟨S,0,none⟩),.agg #[.string k,.string m,.int .i64 q,.int .i64 v]] w fun e w' => e = .returned (.int .i64 0) ∧ SetIs V w' R S M (N + 1):=by
 obtain ⟨s,rfl,H,hl⟩:=h
 subst hM
 refine (tput_1 H hl hN ⟨k,m,q,v⟩ hf ⟨hk,hm⟩).mono ?_
 rintro e w' ⟨t,e1,e2,H',hl'⟩
 exact ⟨e2,t,e1,H',hl'⟩
theorem sdel_o {V w:World} {R:List Thing} {S:Nat} {L:List ItN} {N:Nat} (h:SetIs V w R S L N) (hN:N < 99990) {k m:ByteArray} {q:Int} (hk:k.size < 1000000) (hm:m.size < 1000000) (hy:∃ y ∈ L,SameN y ⟨k,m,q,0⟩) {M:List ItN} (hM:delL L k m q = M) :
 Calls Tryz.prog 132 #[.pointer (some ⟨S,0,none⟩),.string k,.string m,.int .i64 q] w fun e w' => e = .returned (.bool true) ∧ SetIs V w' R S M N:=by
 obtain ⟨s,rfl,H,hl⟩:=h
 subst hM
 refine (tdel_yes H hl hN hk hm hy).mono ?_
 rintro e w' ⟨t,e1,e2,H',hl'⟩
 exact ⟨e2,t,e1,H',hl'⟩
theorem sfind_o {V w:World} {R:List Thing} {S:Nat} {L:List ItN} {N:Nat} (h:SetIs V w R S L N) (hN:N < 99990) {key:ByteArray} (hk:key.size < 1000000) {k m:ByteArray} {q v:Int} {b:Bool} (hr:(findF key L).getD zeroI = ⟨k,m,q,v⟩) (hb:(findF key L).isSome = b) :
 Calls Tryz.prog 133 #[.pointer (some ⟨S,0,none⟩),.string key] w fun e w' => e = .returned (.tuple #[.agg #[.string k,.string m,.int .i64 q,.int .i64 v],.bool b]) ∧ SetIs V w' R S L N:=by
 obtain ⟨s,rfl,H,hl⟩:=h
 subst hb
 refine (ufind_o hl hN hk H (fun t ht => List.mem_append_left _ ht) rfl).mono ?_
 rintro e w' ⟨e2,g⟩
 rw [hr] at e2
 exact ⟨e2,s,rfl,H.quiet g,hl⟩
theorem SetIs.blk {V w:World} {R:List Thing} {S:Nat} {L:List ItN} {N:Nat} (h:SetIs V w R S L N) (C:Array Value) (t:TypeId):SetIs V (w.alloc (.cells C t)) (blkT w.heap.size C t :: R) S L N:=by
 obtain ⟨s,e,H,hl⟩:=h
 refine ⟨s,e,(H.blk C t).perm ?_,hl⟩
 exact (List.perm_middle (l₁:=s.things)).symm
abbrev xA:ItN:=⟨⟨#[16]⟩,⟨#[240]⟩,1,7⟩
abbrev xB:ItN:=⟨⟨#[18]⟩,⟨#[255]⟩,5,8⟩
theorem fA:FormN xA:=by decide +kernel
theorem lB:butL [xA] xB ++ [xB] = [xA,xB]:=by kernel_rfl
end Go.Proofs.YtbnpelciceblfaaGreat
namespace Go.Proofs.YtbnpelciceblfaaGreat
set_option linter.unusedVariables false
open Go.ChangeShapes Go.WideShapes Go.ChangeAt Go.RowKit Go.Joins
open Tab
set_option maxHeartbeats 64000000
theorem wider_below {W w:World} (h:Below W.heap.size W w):Wider W w:=wider_of h.os h.output h.size h.block
theorem eclone_c (s:ByteArray) (hs:s.size < 1000000) (w:World):Calls Tryz.prog 49 #[.string s] w fun e w' => e = .returned (.string s) ∧ Wider w w':=by
 have zc:=Tryz.stringslite_Clone s w (by omega)
 go_enter Tryz.func49,Tryz.ntmps49
 go_wp2_with (first
  | (go_at_call 60; ((with_reducible refine zc.mono ?_); rintro e w3 ⟨rfl,H⟩)))
 go_ret
 exact ⟨rfl,wider_below H⟩
theorem cells_again {L:SlotsE} {p:Nat} {k:ByteArray} {u v:Int} (h:tk L p = some (k,u)):(ecellsE L).toArray.setIfInBounds (p * 3 + 1) (.int .i64 v) = (ecellsE (L.set p (some (k,v)))).toArray:=by
 have pL:=tk_lt h
 rw [List.setIfInBounds_toArray]
 congr 1
 have q:=ecellsE_set L p (some (k,v)) pL
 rw [← q]
 obtain ⟨x0,x1,x2⟩:=ecellsE_at L p pL
 rw [h] at x0 x1 x2
 apply List.ext_getElem?
 intro i
 simp only [List.getElem?_set,List.length_set,ecellsE_length]
 by_cases y0:p * 3 = i
 · subst y0
   rw [if_neg (by omega),if_neg (by omega),if_neg (by omega),if_pos rfl,if_pos (by omega),x0]
   rfl
 · by_cases y1:p * 3 + 1 = i
   · subst y1
     rw [if_pos rfl,if_pos (by omega),if_neg (by omega),if_pos rfl,if_pos (by omega)]
     rfl
   · by_cases y2:p * 3 + 2 = i
     · subst y2
       rw [if_neg (by omega),if_pos rfl,if_pos (by omega),x2]
       rfl
     · rw [if_neg y1,if_neg y2,if_neg y1,if_neg y0]
theorem eput_had {V w:World} {R:List Thing} {A B n c:Nat} {L:SlotsE} (H:Own V w (blkM A B n c :: blkE B L :: R)) (hL:L.length = n) (hc:cnt L = c) (g:GoodE L) (hn:n < 400000) {k:ByteArray} (hk:k.size < 1000000) (v:Int) {p:Nat} {u:Int} (hp:tk L p = some (k,u)) :
 Calls Tryz.prog 85 #[.pointer (some ⟨A,0,none⟩),.string k,.int .i64 v] w fun e w' => e = .returned (.tuple #[.int .i64 u,.bool true]) ∧ Own V w' (blkM A B n c :: blkE B (L.set p (some (k,v))) :: R):=by
 have hl:=g.inv p k u hp
 have pL:=hl.lt
 have p0:(0:Int) ≤ (p:Int):=by omega
 have p1:(p:Int) < (n:Int):=by omega
 obtain ⟨d,hd⟩ : ∃ d,D n (homeE k n) p + 1 = d:=⟨_,rfl⟩
 have zt:=etable_c H.head (by have:=g.eight; omega)
 have H1:Own V (w.setCell ⟨A,0,none⟩ (.slice (some ⟨B,0,none⟩) n n)) (blkM A B n c :: blkE B L :: R):=H.store 0 _
 have zf:=efind_c H1.second hL (by omega) hk hl hd
 have c0:=blk_cell H.head 0 (v:=.slice (some ⟨B,0,none⟩) n n) rfl
 have f0:=blk_free H.head 0
 have HP:=Lib.hid hp
 clear H hd hL hc g hl hp
 go_enter Tryz.func85,Tryz.ntmps85
 go_upto_region 6 with (first
  | (go_at_call 87; ((with_reducible refine zt.mono ?_); rintro e w3 ⟨rfl,rfl⟩))
  | (go_at_call 88; ((with_reducible refine zf.mono ?_); rintro e w3 ⟨rfl,g⟩; replace H1:=H1.quiet g; have d0:=blk_cell H1.head 0 (v:=.slice (some ⟨B,0,none⟩) n n) rfl; obtain ⟨e0,e1,e2⟩:=slot_cells H1.second pL HP.out; have f1:=blk_free H1.second (p * 3 + 1); simp only [numO,keyO,Option.isSome_some] at e0 e1 e2; clear g zf zt c0 f0)))
 have H2:=(Own.store (H1.quiet (Wider.refl _).drew).swap (p * 3 + 1) (.int .i64 v)).swap
 have e3:=cells_again (v:=v) HP.out
 rw [e3] at H2
 clear e3 H1
 go_region_law (fail)
 all_goals
  go_wp2
  go_ret2
  exact ⟨rfl,H2⟩
theorem eput_room {V w:World} {R:List Thing} {A B n c:Nat} {L:SlotsE} (H:Own V w (blkM A B n c :: blkE B L :: R)) (hL:L.length = n) (hc:cnt L = c) (g:GoodE L) (hn:n < 400000) {k:ByteArray} (hk:k.size < 1000000) (v:Int) {p:Nat} (hl:IsLook homeE L k p) (hp:tk L p = none) (hr:2 * (c + 1) ≤ n) :
 Calls Tryz.prog 85 #[.pointer (some ⟨A,0,none⟩),.string k,.int .i64 v] w fun e w' => e = .returned (.tuple #[.int .i64 0,.bool false]) ∧ Own V w' (blkM A B n (c + 1) :: blkE B (L.set p (some (k,v))) :: R):=by
 have pL:=hl.lt
 have p0:(0:Int) ≤ (p:Int):=by omega
 have p1:(p:Int) < (n:Int):=by omega
 obtain ⟨d,hd⟩ : ∃ d,D n (homeE k n) p + 1 = d:=⟨_,rfl⟩
 have zt:=etable_c H.head (by have:=g.eight; omega)
 have H1:Own V (w.setCell ⟨A,0,none⟩ (.slice (some ⟨B,0,none⟩) n n)) (blkM A B n c :: blkE B L :: R):=H.store 0 _
 have zf:=efind_c H1.second hL (by omega) hk hl hd
 have c0:=blk_cell H.head 0 (v:=.slice (some ⟨B,0,none⟩) n n) rfl
 have f0:=blk_free H.head 0
 have HP:=Lib.hid hp
 have HL:=Lib.hid hL
 have HK:=Lib.hid hl
 have c9:(c:Int) + 1 ≤ (n:Int) / 2:=by omega
 have i0:IntKind.i64.wrap ((c:Int) + 1) = (c:Int) + 1:=by simp [IntKind.wrap,IntKind.bits,IntKind.signed]; omega
 have e9:decide ((n:Int) / 2 < (c:Int) + 1) = false:=decide_eq_false (by omega)
 clear H hd hL hc g hl hp
 go_enter Tryz.func85,Tryz.ntmps85
 go_upto_region 8 with (first
  | (go_at_call 87; ((with_reducible refine zt.mono ?_); rintro e w3 ⟨rfl,rfl⟩))
  | (go_at_call 88; ((with_reducible refine zf.mono ?_); rintro e w3 ⟨rfl,g⟩; replace H1:=H1.quiet g; have d0:=blk_cell H1.head 0 (v:=.slice (some ⟨B,0,none⟩) n n) rfl; have d1:=blk_cell H1.head 1 (v:=.int .i64 (c:Int)) rfl; obtain ⟨e0,e1,e2⟩:=slot_cells H1.second pL HP.out; simp only [numO,keyO,Option.isSome_none] at e0 e1 e2; clear g zf zt c0 f0)))
 go_quiet (fail)
 obtain ⟨w4,hw4⟩ : ∃ w4,w3.drewN nq = w4:=⟨_,rfl⟩
 have g4:Wider w3 w4:=hw4 ▸ (Wider.refl w3).drewN nq
 rw [hw4]
 have H2:=H1.quiet g4
 clear H1 g4 hw4 d0 d1 e0 e1 e2
 go_upto_region 10 with (fail)
 have d0:=blk_cell H2.head 0 (v:=.slice (some ⟨B,0,none⟩) n n) rfl
 replace H2:=H2.quiet (Wider.refl _).drew
 have PL:=Lib.hid pL
 clear pL
 go_region_law (first
  | (go_simp; go_at_call 49; ((with_reducible refine (eclone_c k hk _).mono ?_); rintro e w5 ⟨rfl,g5⟩; replace H2:=H2.quiet g5; clear d0; have d0:=blk_cell H2.head 0 (v:=.slice (some ⟨B,0,none⟩) n n) rfl; clear g5))
  | (go_simp; go_at_call 91; ((with_reducible refine (estore_c H2.swap HL.out (by omega) (v:=v) hk HK.out).mono ?_); rintro e w6 ⟨rfl,H6⟩; have d1:=blk_cell H6.second 1 (v:=.int .i64 (c:Int)) rfl; have f1:=blk_free H6.second 1; clear d0 H2)))
 all_goals
  have H7:=Own.store H6.swap 1 (.int .i64 ((c:Int) + 1))
  go_wp2
  go_ret2
  exact ⟨rfl,H7⟩
theorem grow_look {L N:SlotsE} (g:GoodE L) (m:Moved homeE L (List.replicate (2 * L.length) none) N) (k:ByteArray):∃ q,IsLook homeE N k q:=by
 obtain ⟨_,r2,r3,_⟩:=grow_inv homeE_lt g.inv m
 have:=g.half
 have:=g.eight
 obtain ⟨f,hf,e⟩:=cnt_free N (by omega)
 exact look_exists homeE_lt k hf e
def GrownAt (V w:World) (R:List Thing) (A n c:Nat) (L:SlotsE) (k:ByteArray) (v:Int):Prop :=
 ∃ B N q,Moved homeE L (List.replicate (2 * n) none) N ∧ IsLook homeE N k q ∧ Own V w (blkM A B (2 * n) c :: blkE B (N.set q (some (k,v))) :: R)
theorem eput_grow {V w:World} {R:List Thing} {A B n c:Nat} {L:SlotsE} (H:Own V w (blkM A B n c :: blkE B L :: R)) (hL:L.length = n) (hc:cnt L = c) (g:GoodE L) (hn:n < 400000) {k:ByteArray} (hk:k.size < 1000000) (v:Int) {p:Nat} (hl:IsLook homeE L k p) (hp:tk L p = none) (hr:n < 2 * (c + 1)) :
 Calls Tryz.prog 85 #[.pointer (some ⟨A,0,none⟩),.string k,.int .i64 v] w fun e w' => e = .returned (.tuple #[.int .i64 0,.bool false]) ∧ GrownAt V w' R A n (c + 1) L k v:=by
 have pL:=hl.lt
 have p0:(0:Int) ≤ (p:Int):=by omega
 have p1:(p:Int) < (n:Int):=by omega
 obtain ⟨d,hd⟩ : ∃ d,D n (homeE k n) p + 1 = d:=⟨_,rfl⟩
 have zt:=etable_c H.head (by have:=g.eight; omega)
 have H1:Own V (w.setCell ⟨A,0,none⟩ (.slice (some ⟨B,0,none⟩) n n)) (blkM A B n c :: blkE B L :: R):=H.store 0 _
 have zf:=efind_c H1.second hL (by omega) hk hl hd
 have c0:=blk_cell H.head 0 (v:=.slice (some ⟨B,0,none⟩) n n) rfl
 have f0:=blk_free H.head 0
 have HP:=Lib.hid hp
 have HL:=Lib.hid hL
 have HG:=Lib.hid g
 have ch:=cnt_le L
 have c10:c ≤ n:=by omega
 have c9:¬ (c:Int) + 1 ≤ (n:Int) / 2:=by omega
 have i0:IntKind.i64.wrap ((c:Int) + 1) = (c:Int) + 1:=by simp [IntKind.wrap,IntKind.bits,IntKind.signed]; omega
 have e9:decide ((n:Int) / 2 < (c:Int) + 1) = true:=decide_eq_true (by omega)
 have KEY:Hid (∀ N,Moved homeE L (List.replicate (2 * n) none) N → N.length = 2 * n ∧ ∃ q,IsLook homeE N k q):=fun N m => by
  rw [← hL] at m ⊢
  exact ⟨by rw [m.length,List.length_replicate],grow_look g m k⟩
 clear H hd hL hc g hl hp ch hr
 go_enter Tryz.func85,Tryz.ntmps85
 go_upto_region 8 with (first
  | (go_at_call 87; ((with_reducible refine zt.mono ?_); rintro e w3 ⟨rfl,rfl⟩))
  | (go_at_call 88; ((with_reducible refine zf.mono ?_); rintro e w3 ⟨rfl,g⟩; replace H1:=H1.quiet g; have d0:=blk_cell H1.head 0 (v:=.slice (some ⟨B,0,none⟩) n n) rfl; have d1:=blk_cell H1.head 1 (v:=.int .i64 (c:Int)) rfl; obtain ⟨e0,e1,e2⟩:=slot_cells H1.second pL HP.out; simp only [numO,keyO,Option.isSome_none] at e0 e1 e2; clear g zf zt c0 f0)))
 go_quiet (fail)
 obtain ⟨w4,hw4⟩ : ∃ w4,w3.drewN nq = w4:=⟨_,rfl⟩
 have g4:Wider w3 w4:=hw4 ▸ (Wider.refl w3).drewN nq
 rw [hw4]
 have H2:=H1.quiet g4
 clear H1 g4 hw4 d0 d1 e0 e1 e2
 have d0:=blk_cell H2.head 0 (v:=.slice (some ⟨B,0,none⟩) n n) rfl
 go_upto_region 10 with (first
  | (go_at_call 90; ((with_reducible refine (edoubled_c H2.swap HL.out hn HG.out.inv HG.out.keys).mono ?_); rintro e w5 ⟨B2,N,rfl,hm,H3⟩; clear d0 H2; replace H3:=H3.swap.drop.swap; have d0:=blk_cell H3.head 0 (v:=.slice (some ⟨B,0,none⟩) n n) rfl; have f0:=blk_free H3.head 0; replace H3:Own V (w5.setCell ⟨A,0,none⟩ (.slice (some ⟨B2,0,none⟩) (2 * n) (2 * n))) (blkM A B2 (2 * n) c :: blkE B2 N :: R):=H3.store 0 (.slice (some ⟨B2,0,none⟩) (2 * n) (2 * n)); obtain ⟨lN,q,hq⟩:=KEY.out N hm; have HM:=Lib.hid hm; have HN:=Lib.hid lN; have HQ:=Lib.hid hq; clear hm lN hq)))
 clear d0 f0
 obtain ⟨w6,hw6⟩ : ∃ w6,w5.setCell ⟨A,0,none⟩ (.slice (some ⟨B2,0,none⟩) (2 * n) (2 * n)) = w6:=⟨_,rfl⟩
 rw [hw6] at H3 ⊢
 clear hw6
 have d0:=blk_cell H3.head 0 (v:=.slice (some ⟨B2,0,none⟩) (2 * n) (2 * n)) rfl
 replace H3:=H3.quiet (Wider.refl _).drew
 have PL:=Lib.hid pL
 clear pL
 go_region_law (first
  | (go_simp; go_at_call 49; ((with_reducible refine (eclone_c k hk _).mono ?_); rintro e w7 ⟨rfl,g5⟩; replace H3:=H3.quiet g5; clear d0; have d0:=blk_cell H3.head 0 (v:=.slice (some ⟨B2,0,none⟩) (2 * n) (2 * n)) rfl; clear g5))
  | (go_simp; go_at_call 91; ((with_reducible refine (estore_c H3.swap HN.out (by omega) (v:=v) hk HQ.out).mono ?_); rintro e w8 ⟨rfl,H6⟩; have d1:=blk_cell H6.second 1 (v:=.int .i64 (c:Int)) rfl; have f1:=blk_free H6.second 1; clear d0 H3)))
 all_goals
  have H7:Own V (w8.setCell ⟨A,1,none⟩ (.int .i64 ((c:Int) + 1))) (blkM A B2 (2 * n) (c + 1) :: blkE B2 (N.set q (some (k,v))) :: R):=Own.store H6.swap 1 (.int .i64 ((c:Int) + 1))
  go_wp2
  go_ret2
  exact ⟨rfl,B2,N,q,HM.out,HQ.out,H7⟩
theorem eput_1 {V w:World} {R:List Thing} {p:Addr} {L:SlotsE} {F:List Nat} (H:Own V w (mapT p L F :: R)) (g:GoodE L) (hl:L.length < 400000) (k:ByteArray) (hk:k.size < 1000000) (v:Int) :
 Calls Tryz.prog 85 #[.pointer (some p),.string k,.int .i64 v] w fun e w' => ∃ was had L' G,e = .returned (.tuple #[.int .i64 was,.bool had]) ∧ PutE L k v was had L' ∧ Own V w' (mapT p L' G :: R):=by
 obtain ⟨A,B,rfl,H1⟩:=H.mapOpen
 obtain ⟨q,hq⟩:=g.look k
 rcases hq.here_ with e | ⟨u,e⟩
 · have hn:=Tab.IsLook.absent g.inv hq e
   have c1:=cnt_set L q (some (k,v)) hq.lt
   rw [e] at c1
   simp only [Tab.one] at c1
   by_cases c:2 * (cnt L + 1) ≤ L.length
   · refine (eput_room H1 rfl rfl g hl hk v hq e c).mono fun e2 w' ⟨h1,h2⟩ => ?_
     obtain ⟨G,h3⟩:=Own.mapShut (List.length_set ..) (by omega) h2
     exact ⟨0,false,_,G,h1,.room hq e c,h3⟩
   · refine (eput_grow H1 rfl rfl g hl hk v hq e (by omega)).mono fun e2 w' ⟨h1,B2,N,q2,hm,hq2,h2⟩ => ?_
     obtain ⟨_,r2,r3,r4⟩:=grow_inv homeE_lt g.inv hm
     have e3:=hq2.none_of (fun u h => hn u ((r4 k u).1 h))
     have c2:=cnt_set N q2 (some (k,v)) hq2.lt
     rw [e3] at c2
     simp only [Tab.one] at c2
     obtain ⟨G,h3⟩:=Own.mapShut (by rw [List.length_set,r2]) (by omega) h2
     exact ⟨0,false,_,G,h1,.grow hn (by omega) hm hq2,h3⟩
 · have c1:=cnt_set L q (some (k,v)) hq.lt
   rw [e] at c1
   simp only [Tab.one] at c1
   refine (eput_had H1 rfl rfl g hl hk v e).mono fun e2 w' ⟨h1,h2⟩ => ?_
   obtain ⟨G,h3⟩:=Own.mapShut (List.length_set ..) (by omega) h2
   exact ⟨u,true,_,G,h1,.had e,h3⟩
theorem edel_1 {V w:World} {R:List Thing} {p:Addr} {L:SlotsE} {F:List Nat} (H:Own V w (mapT p L F :: R)) (g:GoodE L) (hl:L.length < 400000) (k:ByteArray) (hk:k.size < 1000000) :
 Calls Tryz.prog 83 #[.pointer (some p),.string k] w fun e w' => ∃ b L' G,e = .returned (.bool b) ∧ DelE L k b L' ∧ Own V w' (mapT p L' G :: R):=by
 obtain ⟨A,B,rfl,H1⟩:=H.mapOpen
 obtain ⟨n,hn⟩ : ∃ n,L.length = n:=⟨_,rfl⟩
 obtain ⟨c,hc⟩ : ∃ c,cnt L = c:=⟨_,rfl⟩
 rw [hn,hc] at H1
 rw [hn] at hl
 obtain ⟨q,hq⟩:=g.look k
 have ql:=hq.lt
 have q0:(0:Int) ≤ (q:Int):=by omega
 have q1:(q:Int) < (n:Int):=by omega
 obtain ⟨d,hd⟩ : ∃ d,D n (homeE k n) q + 1 = d:=⟨_,rfl⟩
 have zt:=etable_c H1.head (by have:=g.eight; omega)
 have zf:=efind_c H1.second hn (by omega) hk hq hd
 have ch:=cnt_le L
 have c10:c ≤ n:=by omega
 rcases hq.here_ with e | ⟨u,e⟩
 · have hno:Hid (DelE L k false L):=.no (Tab.IsLook.absent g.inv hq e)
   have HE:=Lib.hid e
   obtain ⟨G,HF⟩ : ∃ G,Own V w (mapT ⟨A,0,none⟩ L G :: R):=H1.mapShut hn hc
   clear H hq hd hn hc e ch
   go_enter Tryz.func83,Tryz.ntmps83
   go_wp2_with (first
    | (go_at_call 87; ((with_reducible refine zt.mono ?_); rintro e w3 ⟨rfl,rfl⟩))
    | (go_at_call 88; ((with_reducible refine zf.mono ?_); rintro e w3 ⟨rfl,g3⟩; replace H1:=H1.quiet g3; replace HF:=HF.quiet g3; obtain ⟨e0,e1,e2⟩:=slot_cells H1.second ql HE.out; simp only [numO,keyO,Option.isSome_none] at e0 e1 e2; clear g3 zf zt)))
   go_ret
   exact ⟨_,_,_,rfl,hno.out,HF⟩
 · obtain ⟨F2,hF⟩ : ∃ F2,shut homeE L.length (L.set q none) q (nx L.length q) = F2:=⟨_,rfl⟩
   have hyes:DelE L k true F2:=by rw [← hF]; exact .yes e
   have f:=hyes.facts g
   have fl:=f.len
   have fc:=f.cnt
   simp only [if_pos] at fc
   have HY:=Lib.hid hyes
   have HE:=Lib.hid e
   have HN:=Lib.hid hn
   have HG:=Lib.hid g
   have HF:=Lib.hid hF
   have SH:Hid (∀ w':World,Own V w' (blkM A B n (c - 1) :: blkE B F2 :: R) → ∃ G,Own V w' (mapT ⟨A,0,none⟩ F2 G :: R)):=fun w' h => h.mapShut (by omega) (by omega)
   have cc:1 ≤ c:=by omega
   have ec:Hid (((c - 1:Nat):Int) = (c:Int) - 1):=by show _ = _; omega
   clear H hq hd hn hc e ch hF hyes f fl fc g
   go_enter Tryz.func83,Tryz.ntmps83
   go_wp2_with (first
    | (go_at_call 87; ((with_reducible refine zt.mono ?_); rintro e w3 ⟨rfl,rfl⟩))
    | (go_at_call 88; ((with_reducible refine zf.mono ?_); rintro e w3 ⟨rfl,g3⟩; replace H1:=H1.quiet g3; obtain ⟨e0,e1,e2⟩:=slot_cells H1.second ql HE.out; simp only [numO,keyO,Option.isSome_some] at e0 e1 e2; clear g3 zf zt))
    | (go_at_call 89; ((with_reducible refine (efree_c H1.swap HN.out (by omega) HG.out HE.out HF.out).mono ?_); rintro e w4 ⟨rfl,H4⟩; clear H1 e0 e1 e2; have d1:=blk_cell H4.second 1 (v:=.int .i64 (c:Int)) rfl; have f1:=blk_free H4.second 1)))
   go_ret
   have H5:=Own.store H4.swap 1 (.int .i64 ((c:Int) - 1))
   have e5:(mapC B n c).setIfInBounds 1 (.int .i64 ((c:Int) - 1)) = mapC B n (c - 1):=by rw [← ec.out]; rfl
   rw [e5] at H5
   obtain ⟨G,H6⟩:=SH.out _ H5
   exact ⟨_,_,_,rfl,HY.out,H6⟩
end Go.Proofs.YtbnpelciceblfaaGreat
