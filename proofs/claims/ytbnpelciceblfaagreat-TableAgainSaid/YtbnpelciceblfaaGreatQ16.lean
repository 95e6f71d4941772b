/- VCodeA VCodeB VSet VSetB -/
import Derived.Test.YtbnpelciceblfaaGreatQ07
import Derived.Test.YtbnpelciceblfaaGreatShelf
namespace Go.Proofs.YtbnpelciceblfaaGreat
set_option linter.unusedVariables false
open Go.ChangeShapes Go.WideShapes Go.ChangeAt Go.RowKit Go.Joins
set_option maxHeartbeats 64000000
theorem vwider_below {W w:World} (h:Below W.heap.size W w):Wider W w:=wider_of h.os h.output h.size h.block
theorem vclone_c (s:ByteArray) (hs:s.size < 1000000) (w:World):Calls Tryz.prog 49 #[.string s] w fun e w' => e = .returned (.string s) ∧ Wider w w':=by
 have zc:=Tryz.stringslite_Clone s w (by omega)
 go_enter Tryz.func49,Tryz.ntmps49
 go_wp2_with (first
  | (go_at_call 60; ((with_reducible refine zc.mono ?_); rintro e w3 ⟨rfl,H⟩)))
 go_ret
 exact ⟨rfl,vwider_below H⟩
theorem vown_c (x:ItR) (hk:x.low.size < 1000000) (hm:x.high.size < 1000000) (w:World):Calls Tryz.prog 197 #[aggR x] w fun e w' => e = .returned (aggR x) ∧ Wider w w':=by
 obtain ⟨key,mask,prio,v⟩:=x
 show Calls Tryz.prog 197 #[.agg #[.string key,.string mask,.int .i64 prio,.int .i64 v]] w fun e w' => e = .returned (.agg #[.string key,.string mask,.int .i64 prio,.int .i64 v]) ∧ Wider w w'
 have zk:=vclone_c key hk
 have zm:=vclone_c mask hm
 clear hk hm
 have H:Own w w []:=Own.nil (Wider.refl w)
 have H1:=(H.blk #[.string key,.string mask,.int .i64 prio,.int .i64 v] 247).blk #[.string ⟨#[]⟩,.string ⟨#[]⟩,.int .i64 0,.int .i64 0] 247
 go_enter Tryz.func197,Tryz.ntmps197
 go_upto_region 1 with (fail)
 obtain ⟨W,hW⟩ : ∃ W,((w.alloc (.cells #[.string key,.string mask,.int .i64 prio,.int .i64 v] 247)).alloc (.cells #[.string ⟨#[]⟩,.string ⟨#[]⟩,.int .i64 0,.int .i64 0] 247)) = W:=⟨_,rfl⟩
 have hz:(w.alloc (.cells #[.string key,.string mask,.int .i64 prio,.int .i64 v] 247)).heap.size = w.heap.size + 1:=by simp
 rw [hW,hz] at H1
 obtain ⟨B,hB⟩ : ∃ B,w.heap.size = B:=⟨_,rfl⟩
 rw [hB] at H1
 try rw [hW]
 try rw [hB]
 have H1:=H1.swap
 have c0:=blk_cell H1.head 0 (v:=.string key) rfl
 have c1:=blk_cell H1.head 1 (v:=.string mask) rfl
 have f0:=blk_free H1.head 0
 have f1:=blk_free H1.head 1
 clear hW hz H hB
 go_region_law (first
  | (go_simp; go_at_call 49; ((with_reducible refine (zk _).mono ?_); rintro e w5 ⟨rfl,g⟩; replace H1:=H1.quiet g; replace c0:=wkeep g c0; replace c1:=wkeep g c1; clear g f0 f1; have f0:=blk_free H1.head 0; have f1:=blk_free H1.head 1))
  | (go_simp; go_at_call 49; ((with_reducible refine (zm _).mono ?_); rintro e w6 ⟨rfl,g⟩; replace H1:=H1.quiet g; replace c0:=wkeep g c0; replace c1:=wkeep g c1; clear g f0 f1; have f0:=blk_free H1.head 0; have f1:=blk_free H1.head 1)))
 all_goals
  have H3:=(H1.store 0 (.string key)).store 1 (.string mask)
  obtain ⟨W2,hW2⟩ : ∃ W2,((w6.setCell ⟨B,0,none⟩ (.string key)).setCell ⟨B,1,none⟩ (.string mask)) = W2:=⟨_,rfl⟩
  rw [hW2] at H3
  try rw [hW2]
  have H4:=((((H3.swap.store 0 (.string key)).store 1 (.string mask)).store 2 (.int .i64 prio)).store 3 (.int .i64 v)).wider
  have d0:=blk_cell H3.head 0 (v:=.string key) rfl
  have d1:=blk_cell H3.head 1 (v:=.string mask) rfl
  have d2:=blk_cell H3.head 2 (v:=.int .i64 prio) rfl
  have d3:=blk_cell H3.head 3 (v:=.int .i64 v) rfl
  have e0:=blk_cell H3.second 0 (v:=.string ⟨#[]⟩) rfl
  have e1:=blk_cell H3.second 1 (v:=.string ⟨#[]⟩) rfl
  have e2:=blk_cell H3.second 2 (v:=.int .i64 0) rfl
  have e3:=blk_cell H3.second 3 (v:=.int .i64 0) rfl
  have k0:=blk_free H3.second 0
  have k1:=blk_free H3.second 1
  have k2:=blk_free H3.second 2
  have k3:=blk_free H3.second 3
  have H5:=Lib.hid H4
  clear H1 H3 H4 c0 c1 f0 f1 hW2 zk zm
  go_wp2
  simp [bodyPost,results,Tryz.results197,go_sem,e0,e1,e2,e3]
  exact H5.out
theorem newR (w:World) (x:ItR):(w.alloc (.cells #[.string x.low,.string x.high,.int .i64 x.prio,.int .i64 x.v] 247)).cell? ⟨w.heap.size,0,none⟩ = some (.string x.low)
 ∧ (w.alloc (.cells #[.string x.low,.string x.high,.int .i64 x.prio,.int .i64 x.v] 247)).cell? ⟨w.heap.size,1,none⟩ = some (.string x.high)
 ∧ (w.alloc (.cells #[.string x.low,.string x.high,.int .i64 x.prio,.int .i64 x.v] 247)).cell? ⟨w.heap.size,2,none⟩ = some (.int .i64 x.prio)
 ∧ (w.alloc (.cells #[.string x.low,.string x.high,.int .i64 x.prio,.int .i64 x.v] 247)).cell? ⟨w.heap.size,3,none⟩ = some (.int .i64 x.v):=by
 simp only [World.cell?_alloc_new]
 exact ⟨rfl,rfl,rfl,rfl⟩
def WidthsAt (w:World) (A:Option Addr) (ws:List Nat):Prop:=∀ (j n:Nat),ws[j]? = some n → ∃ B,A = some ⟨B,0,none⟩ ∧ w.cell? ⟨B,j,none⟩ = some (.int .i64 (n:Int))
theorem WidthsAt.on {W w:World} {A:Option Addr} {ws:List Nat} (h:WidthsAt W A ws) (g:Wider W w):WidthsAt w A ws:=fun j n hj => by
 obtain ⟨B,e,hc⟩:=h j n hj
 exact ⟨B,e,wkeep g hc⟩
set_option maxRecDepth 20000 in
theorem vwithin_c {w:World} {S c n:Nat} {A:Option Addr} {ws:List Nat} (c0:w.cell? ⟨S,0,none⟩ = some (.slice A n c)) (hn:ws.length = n) (hw:WidthsAt w A ws) (h4:n ≤ 4) (hs:ws.sum ≤ 64)
 {key:ByteArray} {x:ItR} (hk:key.size = ws.sum) (hl:x.low.size = ws.sum) (hh:x.high.size = ws.sum) {r:Bool} (hr:inK ws key x = r) :
 Calls Tryz.prog 196 #[.pointer (some ⟨S,0,none⟩),.string key,aggR x] w fun e w' => e = .returned (.bool r) ∧ Wider w w':=by
 obtain ⟨low,high,prio,v⟩:=x
 show Calls Tryz.prog 196 #[.pointer (some ⟨S,0,none⟩),.string key,.agg #[.string low,.string high,.int .i64 prio,.int .i64 v]] w _
 have g0:=(Wider.refl w).alloc (.cells #[.string low,.string high,.int .i64 prio,.int .i64 v] 247)
 obtain ⟨x0,x1,_,_⟩:=newR w ⟨low,high,prio,v⟩
 have x0:(w.alloc (.cells #[.string low,.string high,.int .i64 prio,.int .i64 v] 247)).cell? ⟨w.heap.size,0,none⟩ = some (.string low):=x0
 have x1:(w.alloc (.cells #[.string low,.string high,.int .i64 prio,.int .i64 v] 247)).cell? ⟨w.heap.size,1,none⟩ = some (.string high):=x1
 have c1:=wkeep g0 c0
 have HW:=Lib.hid (hw.on g0)
 have HR:=Lib.hid hr
 have HK:=Lib.hid (And.intro hk (And.intro hl (And.intro hh hs)))
 have HN:=Lib.hid hn
 clear c0 hw hr hk hl hh hs hn
 go_enter Tryz.func196,Tryz.ntmps196
 go_wp2
 obtain ⟨W,hW⟩ : ∃ W,w.alloc (.cells #[.string low,.string high,.int .i64 prio,.int .i64 v] 247) = W:=⟨_,rfl⟩
 obtain ⟨B5,hB5⟩ : ∃ B,w.heap.size = B:=⟨_,rfl⟩
 rw [hW] at g0 x0 x1 c1 HW
 rw [hB5] at x0 x1
 try rw [hW]
 try rw [hB5]
 clear hW hB5
 go_loopw [7,17] (fun a b wr => ∃ (i p:Nat),wr = W ∧ i ≤ n ∧ a = .int .i64 (p:Int) ∧ b = .int .i64 (i:Int) ∧ Hid (p = (ws.take i).sum ∧ inF key ⟨low,high,prio,v⟩ p (ws.drop i) = r)) (fun _ b _ => n - (intOf b).toNat)
 case atStart => exact ⟨0,0,rfl,Nat.zero_le _,rfl,rfl,Lib.hid ⟨rfl,HR.out⟩⟩
 case round =>
  obtain ⟨i,p,rfl,hi0,rfl,rfl,HP⟩:=hrel
  have q0:(0:Int) ≤ (i:Int):=by omega
  by_cases c:i < n
  · have q1:(i:Int) < (n:Int):=by omega
    obtain ⟨m,hm⟩ : ∃ m,ws[i]? = some m:=⟨ws[i]'(by rw [HN.out]; exact c),List.getElem?_eq_getElem _⟩
    obtain ⟨B,rfl,hc⟩:=HW.out i m hm
    have hp:=HP.out.1
    have hsum:=sum_take_next hm
    have hle:=sum_take_le ws (i + 1)
    obtain ⟨hk,hl,hh,hs⟩:=HK.out
    obtain ⟨t,ht⟩ : ∃ t,p + m = t:=⟨_,rfl⟩
    have i1:IntKind.i64.wrap ((p:Int) + (m:Int)) = (t:Int):=by simp [IntKind.wrap,IntKind.bits,IntKind.signed]; omega
    have i2:(p:Int) ≤ (t:Int):=by omega
    have i3:(t:Int) ≤ (key.size:Int):=by omega
    have i4:(t:Int) ≤ (low.size:Int):=by omega
    have i5:(t:Int) ≤ (high.size:Int):=by omega
    have i6:(0:Int) ≤ (p:Int):=by omega
    have hd:ws.drop i = m :: ws.drop (i + 1):=by
     obtain ⟨hj,rfl⟩:=List.getElem?_eq_some_iff.1 hm
     exact (List.getElem_cons_drop hj).symm
    have hin:=HP.out.2
    rw [hd] at hin
    unfold inF at hin
    rw [ht] at hin
    rw [inB_eq] at hin
    have hin:((!Op.bytesLess (key.extract p t).toList (low.extract p t).toList && (Op.bytesLess (key.extract p t).toList (high.extract p t).toList || (key.extract p t).toList == (high.extract p t).toList)) && inF key ⟨low,high,prio,v⟩ t (ws.drop (i + 1))) = r:=hin
    have HT:=Lib.hid (And.intro hp (And.intro hsum ht))
    clear hp hsum hle hk hl hh hs ht hd hm HP
    cases ca:Op.bytesLess (key.extract p t).toList (low.extract p t).toList with
    | true =>
      rw [ca] at hin
      have HI:=Lib.hid hin
      clear hin
      go_wp2
      go_ret
      refine ⟨?_,g0⟩
      rw [← HI.out]; rfl
    | false =>
      rw [ca] at hin
      cases cb:Op.bytesLess (key.extract p t).toList (high.extract p t).toList || (key.extract p t).toList == (high.extract p t).toList with
      | false =>
        rw [cb] at hin
        have HI:=Lib.hid hin
        clear hin
        go_wp2
        go_ret
        refine ⟨?_,g0⟩
        rw [← HI.out]; rfl
      | true =>
        rw [cb] at hin
        have HI:=Lib.hid hin
        clear hin
        go_wp2
        go_roundw
        case measure => simp [intOf]; omega
        case rel =>
         refine ⟨i + 1,t,trivial,by omega,rfl,by go_num,Lib.hid ⟨?_,?_⟩⟩
         · obtain ⟨hp,hsum,ht⟩:=HT.out
           omega
         · have:=HI.out
           simpa using this
  · have e:i = n:=by omega
    subst e
    have q1:¬ ((i:Int) < (i:Int)):=by omega
    go_wp2
    go_ret
    refine ⟨?_,g0⟩
    have h:=HP.out.2
    rw [List.drop_eq_nil_of_le (by rw [HN.out]; exact Nat.le_refl _)] at h
    rw [← h]; rfl
theorem textR_ne {s t:ByteArray} (h:s ≠ t):(s.toList == t.toList) = false:=by
 rw [beq_eq_false_iff_ne]
 intro q
 rw [ByteArray.toList_eq,ByteArray.toList_eq] at q
 exact h (ba_ext q)
theorem vbetter_c (x y:ItR) {b:Bool} (hb:decide (y.prio < x.prio) = b) (w:World):Calls Tryz.prog 195 #[aggR x,aggR y] w fun e w' => e = .returned (.bool b) ∧ Wider w w':=by
 obtain ⟨k1,m1,p1,v1⟩:=x
 obtain ⟨k2,m2,p2,v2⟩:=y
 show Calls Tryz.prog 195 #[.agg #[.string k1,.string m1,.int .i64 p1,.int .i64 v1],.agg #[.string k2,.string m2,.int .i64 p2,.int .i64 v2]] w _
 have hb:decide (p2 < p1) = b:=hb
 have H:=((Wider.refl w).alloc (.cells #[.string k1,.string m1,.int .i64 p1,.int .i64 v1] 247)).alloc (.cells #[.string k2,.string m2,.int .i64 p2,.int .i64 v2] 247)
 subst hb
 go_enter Tryz.func195,Tryz.ntmps195
 go_wp2
 go_ret
 exact ⟨rfl,H⟩
theorem vsame_c (x:ItR) {p l h:Nat} {low high:ByteArray} {prio:Int} {w:World} (cp:w.cell? ⟨p,0,none⟩ = some (.int .i64 prio)) (cl:w.cell? ⟨l,0,none⟩ = some (.string low)) (ch:w.cell? ⟨h,0,none⟩ = some (.string high)) {b:Bool} (hb:decide (SameR x ⟨low,high,prio,0⟩) = b) :
 Calls Tryz.prog 192 #[aggR x,.pointer (some ⟨p,0,none⟩),.pointer (some ⟨l,0,none⟩),.pointer (some ⟨h,0,none⟩)] w fun e w' => e = .returned (.bool b) ∧ Wider w w':=by
 obtain ⟨k1,m1,p1,v1⟩:=x
 show Calls Tryz.prog 192 #[.agg #[.string k1,.string m1,.int .i64 p1,.int .i64 v1],_,_,_] w _
 have g0:=(Wider.refl w).alloc (.cells #[.string k1,.string m1,.int .i64 p1,.int .i64 v1] 247)
 have dp:=wkeep g0 cp
 have dl:=wkeep g0 cl
 have dh:=wkeep g0 ch
 obtain ⟨x0,x1,x2,_⟩:=newR w ⟨k1,m1,p1,v1⟩
 clear cp cl ch
 have HB:=Lib.hid hb
 clear hb
 by_cases e1:p1 = prio
 · by_cases e2:k1 = low
   · by_cases e3:m1 = high
     · subst e1 e2 e3
       have z0:(p1 == p1) = true:=beq_self_eq_true _
       go_enter Tryz.func192,Tryz.ntmps192
       go_wp2
       go_ret
       refine ⟨?_,g0⟩
       rw [← HB.out]
       simp [SameR]
     · subst e1 e2
       have z0:(p1 == p1) = true:=beq_self_eq_true _
       have z1:=textR_ne e3
       go_enter Tryz.func192,Tryz.ntmps192
       go_wp2
       go_ret
       refine ⟨?_,g0⟩
       rw [← HB.out]
       simp [SameR,e3]
   · subst e1
     have z0:(p1 == p1) = true:=beq_self_eq_true _
     have z1:=textR_ne e2
     go_enter Tryz.func192,Tryz.ntmps192
     go_wp2
     go_ret
     refine ⟨?_,g0⟩
     rw [← HB.out]
     simp [SameR,e2]
 · have z0:(p1 == prio) = false:=by simpa using e1
   go_enter Tryz.func192,Tryz.ntmps192
   go_wp2
   go_ret
   refine ⟨?_,g0⟩
   rw [← HB.out]
   simp [SameR,e1]
def ItemRAt (w:World) (B j:Nat) (x:ItR):Prop:=w.cell? ⟨B,j * 4,none⟩ = some (.string x.low) ∧ w.cell? ⟨B,j * 4 + 1,none⟩ = some (.string x.high) ∧ w.cell? ⟨B,j * 4 + 2,none⟩ = some (.int .i64 x.prio) ∧ w.cell? ⟨B,j * 4 + 3,none⟩ = some (.int .i64 x.v)
def ItemsAt (w:World) (A:Option Addr) (L:List ItR):Prop:=∀ (j:Nat) (x:ItR),L[j]? = some x → ∃ B,A = some ⟨B,0,none⟩ ∧ ItemRAt w B j x
theorem ItemRAt.on {W w:World} {B j:Nat} {x:ItR} (h:ItemRAt W B j x) (g:Wider W w):ItemRAt w B j x:=⟨wkeep g h.1,wkeep g h.2.1,wkeep g h.2.2.1,wkeep g h.2.2.2⟩
theorem ItemsAt.on {W w:World} {A:Option Addr} {L:List ItR} (h:ItemsAt W A L) (g:Wider W w):ItemsAt w A L:=fun j x hj => by
 obtain ⟨B,e,hc⟩:=h j x hj
 exact ⟨B,e,hc.on g⟩
theorem rowR_slice {w:World} {E:TypeId} {k n:Nat} {v:Value} {xs:List Value} (h:w.ownsRow 0 E k v n xs) (hn:0 < n) :
 ∃ B c,v = .slice (some ⟨B,0,none⟩) n c ∧ ∀ j u,xs[j]? = some u → w.cell? ⟨B,j,none⟩ = some u:=by
 have hh:=h
 rcases h.2 with ⟨_,q2⟩ | ⟨g,cap,cur,rfl,hb,hg,r⟩
 · omega
 · refine ⟨g,cap,rfl,fun j u hu => ?_⟩
   have q:=hh.cells (g:=g) rfl j u hu
   rwa [Addr.add_lit,Nat.zero_add] at q
theorem itemsAt {w:World} {E:TypeId} {A:Option Addr} {n c:Nat} {L:List ItR} (h:w.ownsRow 0 E 4 (.slice A n c) n (cellsR L)) (hn:L.length = n):ItemsAt w A L:=fun j x hj => by
 have hl:=(List.getElem?_eq_some_iff.1 hj).1
 obtain ⟨B,c2,e,hc⟩:=rowR_slice h (by omega)
 injection e with e1 e2 e3
 obtain ⟨a0,a1,a2,a3⟩:=cellsR_at L j x hj
 exact ⟨B,e1,hc _ _ a0,hc _ _ a1,hc _ _ a2,hc _ _ a3⟩
theorem widthsAt {w:World} {E:TypeId} {A:Option Addr} {n c:Nat} {ws:List Nat} (h:w.ownsRow 0 E 1 (.slice A n c) n (intsW ws)) (hn:ws.length = n):WidthsAt w A ws:=fun j m hj => by
 have hl:=(List.getElem?_eq_some_iff.1 hj).1
 obtain ⟨B,c2,e,hc⟩:=rowR_slice h (by omega)
 injection e with e1 e2 e3
 exact ⟨B,e1,hc _ _ (intsW_at hj)⟩
def IndexR (L:List ItR) (x:ItR) (r:Int):Prop:=(r = -1 ∧ ∀ y ∈ L,¬ SameR y x) ∨ ∃ (A B:List ItR) (y:ItR),L = A ++ y :: B ∧ SameR y x ∧ (∀ z ∈ A,¬ SameR z x) ∧ r = (A.length:Int)
theorem IndexR.at {L:List ItR} {x:ItR} {r:Int} (h:IndexR L x r) {i:Nat} (hi:∀ (j:Nat) (y:ItR),j < i → L[j]? = some y → ¬ SameR y x) {y:ItR} (hy:L[i]? = some y) (s:SameR y x):r = (i:Int):=by
 rcases h with ⟨_,h⟩ | ⟨A,B,z,rfl,s2,hA,rfl⟩
 · exact absurd s (h y (List.mem_of_getElem? hy))
 · rcases Nat.lt_trichotomy i A.length with c | c | c
   · rw [List.getElem?_append_left c] at hy
     exact absurd s (hA y (List.mem_of_getElem? hy))
   · rw [c]
   · exact absurd s2 (hi A.length z c (by rw [List.getElem?_append_right (Nat.le_refl _),Nat.sub_self]; rfl))
theorem IndexR.none {L:List ItR} {x:ItR} {r:Int} (h:IndexR L x r) (hi:∀ (j:Nat) (y:ItR),L[j]? = some y → ¬ SameR y x):r = -1:=by
 rcases h with ⟨h,_⟩ | ⟨A,B,z,rfl,s2,hA,rfl⟩
 · exact h
 · exact absurd s2 (hi A.length z (by rw [List.getElem?_append_right (Nat.le_refl _),Nat.sub_self]; rfl))
set_option maxRecDepth 20000 in
theorem vindex_c {w:World} {A:Option Addr} {n c:Nat} {L:List ItR} (hL:ItemsAt w A L) (hn:L.length = n) (hl:n < 1000000) {p l h:Nat} {low high:ByteArray} {prio:Int} (cp:w.cell? ⟨p,0,none⟩ = some (.int .i64 prio)) (cl:w.cell? ⟨l,0,none⟩ = some (.string low)) (ch:w.cell? ⟨h,0,none⟩ = some (.string high))
 {r:Int} (hr:IndexR L ⟨low,high,prio,0⟩ r) :
 Calls Tryz.prog 191 #[.slice A n c,.func (.func 192) #[] #[.pointer (some ⟨p,0,none⟩),.pointer (some ⟨l,0,none⟩),.pointer (some ⟨h,0,none⟩)]] w fun e w' => e = .returned (.int .i64 r) ∧ Wider w w':=by
 have zs:=fun (W:World) (g:Wider w W) (y:ItR) => vsame_c y (wkeep g cp) (wkeep g cl) (wkeep g ch) rfl
 have HL:=Lib.hid hL
 have HN:=Lib.hid hn
 have HR:=Lib.hid hr
 clear hL hn hr cp cl ch
 go_enter Tryz.func191,Tryz.ntmps191
 go_wp2
 go_loopw [8] (fun a wr => ∃ i:Nat,i ≤ n ∧ a = .int .i64 (i:Int) ∧ Wider w wr ∧ Hid (∀ (j:Nat) (y:ItR),j < i → L[j]? = some y → ¬ SameR y ⟨low,high,prio,0⟩)) (fun a _ => n - (intOf a).toNat)
 case atStart => exact ⟨0,Nat.zero_le _,rfl,Wider.refl _,Lib.hid fun j y hj => absurd hj (Nat.not_lt_zero _)⟩
 case round =>
  obtain ⟨i,hi0,rfl,G,HI⟩:=hrel
  have q0:(0:Int) ≤ (i:Int):=by omega
  by_cases c:i < n
  · have q1:(i:Int) < (n:Int):=by omega
    obtain ⟨⟨k1,m1,p1,v1⟩,hy⟩ : ∃ y,L[i]? = some y:=⟨L[i]'(by rw [HN.out]; exact c),List.getElem?_eq_getElem _⟩
    obtain ⟨B,rfl,x0,x1,x2,x3⟩:=HL.out i _ hy
    have x0:=wkeep G x0
    have x1:=wkeep G x1
    have x2:=wkeep G x2
    have x3:=wkeep G x3
    have z:=zs _ G ⟨k1,m1,p1,v1⟩
    have HY:=Lib.hid hy
    clear hy
    by_cases s:SameR ⟨k1,m1,p1,v1⟩ ⟨low,high,prio,0⟩
    · have HS:=Lib.hid s
      rw [decide_eq_true s] at z
      clear s zs
      go_wp2_with (first
       | (go_at_call 192; ((with_reducible refine z.mono ?_); rintro e w1 ⟨rfl,g⟩; replace G:=G.trans g; clear z g)))
      go_ret
      exact ⟨congrArg (fun q => Ending.returned (.int .i64 q)) (HR.out.at HI.out HY.out HS.out).symm,G⟩
    · have HS:=Lib.hid s
      rw [decide_eq_false s] at z
      clear s zs
      go_wp2_with (first
       | (go_at_call 192; ((with_reducible refine z.mono ?_); rintro e w1 ⟨rfl,g⟩; replace G:=G.trans g; clear z g)))
      go_roundw
      case measure => simp [intOf]; omega
      case rel =>
       refine ⟨i + 1,by omega,by go_num,G,Lib.hid fun j y hj hy => ?_⟩
       by_cases e:j = i
       · subst e
         rw [HY.out] at hy
         cases hy
         exact HS.out
       · exact HI.out j y (by omega) hy
  · have e:i = n:=by omega
    subst e
    have q1:¬ ((i:Int) < (i:Int)):=by omega
    go_wp2
    go_ret
    exact ⟨congrArg (fun q => Ending.returned (.int .i64 q)) (HR.out.none fun j y hy => HI.out j y (by rw [← HN.out]; exact (List.getElem?_eq_some_iff.1 hy).1) hy).symm,G⟩
theorem pick_cases (ws:List Nat) (key:ByteArray) (o:Option ItR) (x:ItR):(inK ws key x = false ∧ pickR ws key o x = o) ∨ (inK ws key x = true ∧ o = none ∧ pickR ws key o x = some x) ∨ (∃ y,inK ws key x = true ∧ o = some y ∧ y.prio < x.prio ∧ pickR ws key o x = some x) ∨ (∃ y,inK ws key x = true ∧ o = some y ∧ ¬ y.prio < x.prio ∧ pickR ws key o x = o):=by
 cases c:inK ws key x with
 | false => exact .inl ⟨rfl,pick_no c⟩
 | true =>
   cases o with
   | none => exact .inr (.inl ⟨rfl,rfl,pick_none c⟩)
   | some y =>
     by_cases d:y.prio < x.prio
     · exact .inr (.inr (.inl ⟨y,rfl,rfl,d,pick_more c d⟩))
     · exact .inr (.inr (.inr ⟨y,rfl,rfl,d,pick_less d⟩))
set_option maxRecDepth 20000 in
theorem vbest_c {w:World} {S c n m cw:Nat} {A D:Option Addr} {ws:List Nat} {L:List ItR} (c0:w.cell? ⟨S,0,none⟩ = some (.slice D m cw)) (c2:w.cell? ⟨S,2,none⟩ = some (.slice A n c)) (hm:ws.length = m) (hw:WidthsAt w D ws) (h4:m ≤ 4) (hs:ws.sum ≤ 64)
 (hL:ItemsAt w A L) (hn:L.length = n) (hl:n < 1000000) (hi:∀ x ∈ L,x.low.size = ws.sum ∧ x.high.size = ws.sum) {key:ByteArray} (hk:key.size = ws.sum) {o:Option ItR} (ho:bestF ws key L = o) :
 Calls Tryz.prog 194 #[.pointer (some ⟨S,0,none⟩),.string key,.func (.func 195) #[] #[]] w fun e w' => e = .returned (.tuple #[aggR (o.getD zeroR),.bool o.isSome]) ∧ Wider w w':=by
 have zw:=fun (W:World) (g:Wider w W) (x:ItR) (hx:x ∈ L) => vwithin_c (wkeep g c0) hm (hw.on g) h4 hs hk (hi x hx).1 (hi x hx).2 rfl
 have zb:=fun (W:World) (x y:ItR) => vbetter_c x y rfl W
 have HL:=Lib.hid hL
 have HN:=Lib.hid hn
 have HO:=Lib.hid ho
 have H:Own w (w.alloc (.cells #[.string ⟨#[]⟩,.string ⟨#[]⟩,.int .i64 0,.int .i64 0] 247)) [blkT w.heap.size #[.string ⟨#[]⟩,.string ⟨#[]⟩,.int .i64 0,.int .i64 0] 247]:=(Own.nil (Wider.refl w)).blk _ _
 have d2:=kalloc (o:=.cells #[.string ⟨#[]⟩,.string ⟨#[]⟩,.int .i64 0,.int .i64 0] 247) c2
 obtain ⟨B6,hB6⟩ : ∃ B,w.heap.size = B:=⟨_,rfl⟩
 rw [hB6] at H
 clear c0 c2 hm hw h4 hs hL hn hi hk ho
 go_enter Tryz.func194,Tryz.ntmps194
 go_wp2
 try rw [hB6]
 clear d2 hB6
 go_loopw [7,15] (fun a b wr => ∃ i:Nat,i ≤ n ∧ b = .int .i64 (i:Int) ∧ ∃ (is:Bool) (k0 m0:ByteArray) (p0 v0:Int),a = .bool is ∧ Hid (((is = false ∧ bestF ws key (L.take i) = none ∧ (⟨k0,m0,p0,v0⟩ : ItR) = zeroR) ∨ (is = true ∧ bestF ws key (L.take i) = some ⟨k0,m0,p0,v0⟩))) ∧ Own w wr [blkT B6 #[.string k0,.string m0,.int .i64 p0,.int .i64 v0] 247]) (fun _ b _ => n - (intOf b).toNat)
 case atStart => exact ⟨0,Nat.zero_le _,rfl,false,_,_,_,_,rfl,Lib.hid (.inl ⟨rfl,rfl,rfl⟩),H⟩
 case round =>
  clear H
  obtain ⟨i,hi0,rfl,is,k0,m0,p0,v0,rfl,HB,H⟩:=hrel
  have q0:(0:Int) ≤ (i:Int):=by omega
  by_cases c:i < n
  · have q1:(i:Int) < (n:Int):=by omega
    obtain ⟨⟨k1,m1,p1,v1⟩,hy⟩ : ∃ y,L[i]? = some y:=⟨L[i]'(by rw [HN.out]; exact c),List.getElem?_eq_getElem _⟩
    obtain ⟨B,rfl,x0,x1,x2,x3⟩:=HL.out i _ hy
    have x0:=wkeep H.wider x0
    have x1:=wkeep H.wider x1
    have x2:=wkeep H.wider x2
    have x3:=wkeep H.wider x3
    have z:=fun (W:World) (g:Wider w W) => zw W g ⟨k1,m1,p1,v1⟩ (List.mem_of_getElem? hy)
    have HT:=Lib.hid (show bestF ws key (L.take (i + 1)) = pickR ws key (bestF ws key (L.take i)) ⟨k1,m1,p1,v1⟩ by rw [takeR_next hy,bestF_snoc])
    clear hy zw
    rcases pick_cases ws key (bestF ws key (L.take i)) ⟨k1,m1,p1,v1⟩ with ⟨a1,a2⟩ | ⟨a1,a2,a3⟩ | ⟨y,a1,a2,a3,a4⟩ | ⟨y,a1,a2,a3,a4⟩
    · rw [a1] at z
      have H1:=H.blk #[.string k1,.string m1,.int .i64 p1,.int .i64 v1] 247
      have HX:=Lib.hid (show (is = false ∧ bestF ws key (L.take (i + 1)) = none ∧ (⟨k0,m0,p0,v0⟩ : ItR) = zeroR) ∨ (is = true ∧ bestF ws key (L.take (i + 1)) = some ⟨k0,m0,p0,v0⟩) by rw [HT.out,a2]; exact HB.out)
      have G:=H1.wider
      have H2:=Lib.hid H1.drop
      clear a1 a2 HT HB zb H
      obtain ⟨b0,b1,b2,b3⟩:=newR wr ⟨k1,m1,p1,v1⟩
      go_wp2_with (first
       | (go_at_call 196; ((with_reducible refine (z _ G).mono ?_); rintro e w1 ⟨rfl,g⟩; have H3:=H2.out.quiet g; clear z g)))
      go_roundw
      case measure => simp [intOf]; omega
      case rel => exact ⟨i + 1,by omega,by go_num,is,k0,m0,p0,v0,rfl,HX,H3⟩
    · rw [a1] at z
      obtain ⟨rfl,_⟩ : is = false ∧ True:=by
       rcases HB.out with ⟨h,_⟩ | ⟨_,h⟩
       · exact ⟨h,trivial⟩
       · rw [a2] at h; cases h
      have HX:=Lib.hid (show bestF ws key (L.take (i + 1)) = some ⟨k1,m1,p1,v1⟩ by rw [HT.out,a3])
      have H1:=H.blk #[.string k1,.string m1,.int .i64 p1,.int .i64 v1] 247
      obtain ⟨b0,b1,b2,b3⟩:=newR wr ⟨k1,m1,p1,v1⟩
      have G:=H1.wider
      have d0:=(blk_cell H1.second 0 (v:=.string k0) rfl)
      have d1:=(blk_cell H1.second 1 (v:=.string m0) rfl)
      have d2:=(blk_cell H1.second 2 (v:=.int .i64 p0) rfl)
      have d3:=(blk_cell H1.second 3 (v:=.int .i64 v0) rfl)
      clear H HB HT zb a1 a2 a3
      go_wp2_with (first
       | (go_at_call 196; ((with_reducible refine (z _ G).mono ?_); rintro e w1 ⟨rfl,g⟩; replace H1:=H1.quiet g; replace b0:=wkeep g b0; replace b1:=wkeep g b1; replace b2:=wkeep g b2; replace b3:=wkeep g b3; replace d0:=wkeep g d0; replace d1:=wkeep g d1; replace d2:=wkeep g d2; replace d3:=wkeep g d3; clear z g; have f0:=blk_free H1.second 0; have f1:=blk_free H1.second 1; have f2:=blk_free H1.second 2; have f3:=blk_free H1.second 3)))
      have H2:=(((H1.swap.store 0 (.string k1)).store 1 (.string m1)).store 2 (.int .i64 p1)).store 3 (.int .i64 v1)
      go_roundw
      case measure => simp [intOf]; omega
      case rel => exact ⟨i + 1,by omega,by go_num,true,k1,m1,p1,v1,rfl,Lib.hid (.inr ⟨rfl,HX.out⟩),H2.swap.drop⟩
    · rw [a1] at z
      obtain ⟨rfl,rfl⟩ : is = true ∧ y = ⟨k0,m0,p0,v0⟩:=by
       rcases HB.out with ⟨_,h,_⟩ | ⟨h,h2⟩
       · rw [a2] at h; cases h
       · rw [a2] at h2; injection h2 with h2; exact ⟨h,h2⟩
      have zc:=fun (W:World) => zb W ⟨k1,m1,p1,v1⟩ ⟨k0,m0,p0,v0⟩
      rw [decide_eq_true (show p0 < p1 from a3)] at zc
      have HX:=Lib.hid (show bestF ws key (L.take (i + 1)) = some ⟨k1,m1,p1,v1⟩ by rw [HT.out,a4])
      have H1:=H.blk #[.string k1,.string m1,.int .i64 p1,.int .i64 v1] 247
      obtain ⟨b0,b1,b2,b3⟩:=newR wr ⟨k1,m1,p1,v1⟩
      have G:=H1.wider
      have d0:=(blk_cell H1.second 0 (v:=.string k0) rfl)
      have d1:=(blk_cell H1.second 1 (v:=.string m0) rfl)
      have d2:=(blk_cell H1.second 2 (v:=.int .i64 p0) rfl)
      have d3:=(blk_cell H1.second 3 (v:=.int .i64 v0) rfl)
      clear H HB HT zb a1 a2 a3 a4
      go_wp2_with (first
       | (go_at_call 196; ((with_reducible refine (z _ G).mono ?_); rintro e w1 ⟨rfl,g⟩; replace H1:=H1.quiet g; replace b0:=wkeep g b0; replace b1:=wkeep g b1; replace b2:=wkeep g b2; replace b3:=wkeep g b3; replace d0:=wkeep g d0; replace d1:=wkeep g d1; replace d2:=wkeep g d2; replace d3:=wkeep g d3; clear z g; have f0:=blk_free H1.second 0; have f1:=blk_free H1.second 1; have f2:=blk_free H1.second 2; have f3:=blk_free H1.second 3))
       | (go_at_call 195; ((with_reducible refine (zc _).mono ?_); rintro e w2 ⟨rfl,g⟩; replace H1:=H1.quiet g; replace b0:=wkeep g b0; replace b1:=wkeep g b1; replace b2:=wkeep g b2; replace b3:=wkeep g b3; replace d0:=wkeep g d0; replace d1:=wkeep g d1; replace d2:=wkeep g d2; replace d3:=wkeep g d3; clear zc g f0 f1 f2 f3; have f0:=blk_free H1.second 0; have f1:=blk_free H1.second 1; have f2:=blk_free H1.second 2; have f3:=blk_free H1.second 3)))
      have H2:=(((H1.swap.store 0 (.string k1)).store 1 (.string m1)).store 2 (.int .i64 p1)).store 3 (.int .i64 v1)
      go_roundw
      case measure => simp [intOf]; omega
      case rel => exact ⟨i + 1,by omega,by go_num,true,k1,m1,p1,v1,rfl,Lib.hid (.inr ⟨rfl,HX.out⟩),H2.swap.drop⟩
    · rw [a1] at z
      obtain ⟨rfl,rfl⟩ : is = true ∧ y = ⟨k0,m0,p0,v0⟩:=by
       rcases HB.out with ⟨_,h,_⟩ | ⟨h,h2⟩
       · rw [a2] at h; cases h
       · rw [a2] at h2; injection h2 with h2; exact ⟨h,h2⟩
      have zc:=fun (W:World) => zb W ⟨k1,m1,p1,v1⟩ ⟨k0,m0,p0,v0⟩
      rw [decide_eq_false (show ¬ p0 < p1 from a3)] at zc
      have HX:=Lib.hid (show bestF ws key (L.take (i + 1)) = some ⟨k0,m0,p0,v0⟩ by rw [HT.out,a4,a2])
      have H1:=H.blk #[.string k1,.string m1,.int .i64 p1,.int .i64 v1] 247
      obtain ⟨b0,b1,b2,b3⟩:=newR wr ⟨k1,m1,p1,v1⟩
      have G:=H1.wider
      have d0:=(blk_cell H1.second 0 (v:=.string k0) rfl)
      have d1:=(blk_cell H1.second 1 (v:=.string m0) rfl)
      have d2:=(blk_cell H1.second 2 (v:=.int .i64 p0) rfl)
      have d3:=(blk_cell H1.second 3 (v:=.int .i64 v0) rfl)
      clear H HB HT zb a1 a2 a3 a4
      go_wp2_with (first
       | (go_at_call 196; ((with_reducible refine (z _ G).mono ?_); rintro e w1 ⟨rfl,g⟩; replace H1:=H1.quiet g; replace b0:=wkeep g b0; replace b1:=wkeep g b1; replace b2:=wkeep g b2; replace b3:=wkeep g b3; replace d0:=wkeep g d0; replace d1:=wkeep g d1; replace d2:=wkeep g d2; replace d3:=wkeep g d3; clear z g; have f0:=blk_free H1.second 0; have f1:=blk_free H1.second 1; have f2:=blk_free H1.second 2; have f3:=blk_free H1.second 3))
       | (go_at_call 195; ((with_reducible refine (zc _).mono ?_); rintro e w2 ⟨rfl,g⟩; replace H1:=H1.quiet g; replace b0:=wkeep g b0; replace b1:=wkeep g b1; replace b2:=wkeep g b2; replace b3:=wkeep g b3; replace d0:=wkeep g d0; replace d1:=wkeep g d1; replace d2:=wkeep g d2; replace d3:=wkeep g d3; clear zc g f0 f1 f2 f3; have f0:=blk_free H1.second 0; have f1:=blk_free H1.second 1; have f2:=blk_free H1.second 2; have f3:=blk_free H1.second 3)))
      go_roundw
      case measure => simp [intOf]; omega
      case rel => exact ⟨i + 1,by omega,by go_num,true,k0,m0,p0,v0,rfl,Lib.hid (.inr ⟨rfl,HX.out⟩),H1.drop⟩
  · have e:i = n:=by omega
    subst e
    have q1:¬ ((i:Int) < (i:Int)):=by omega
    have c0:=blk_cell H.head 0 (v:=.string k0) rfl
    have c1:=blk_cell H.head 1 (v:=.string m0) rfl
    have c2:=blk_cell H.head 2 (v:=.int .i64 p0) rfl
    have c3:=blk_cell H.head 3 (v:=.int .i64 v0) rfl
    have f0:=blk_free H.head 0
    have f1:=blk_free H.head 1
    have f2:=blk_free H.head 2
    have f3:=blk_free H.head 3
    have H4:=Lib.hid ((((H.store 0 (.string k0)).store 1 (.string m0)).store 2 (.int .i64 p0)).store 3 (.int .i64 v0)).wider
    clear H zw zb
    go_wp2
    simp [bodyPost,results,Tryz.results194,go_sem,c0,c1,c2,c3]
    refine ⟨?_,H4.out⟩
    have hb:=HB.out
    rw [List.take_of_length_le (by rw [HN.out]; exact Nat.le_refl _),HO.out] at hb
    rcases hb with ⟨rfl,rfl,e⟩ | ⟨rfl,rfl⟩
    · cases e
      exact ⟨⟨rfl,rfl,rfl,rfl⟩,rfl⟩
    · exact ⟨⟨rfl,rfl,rfl,rfl⟩,rfl⟩
abbrev rsetC (wv iv:Value) (sz:Nat):Array Value:=#[wv,.int .i64 (sz:Int),iv]
abbrev setT (S:Nat) (wv iv:Value) (ws:List Nat):Thing:=blkT S (rsetC wv iv ws.sum) 137
abbrev rowW (v:Value) (ws:List Nat):Thing:=rowT 3 1 v ws.length (intsW ws)
abbrev rowR (v:Value) (L:List ItR):Thing:=rowT 247 4 v L.length (cellsR L)
def RangIs (V w:World) (R:List Thing) (S:Nat) (ws:List Nat) (L:List ItR) (N:Nat):Prop:=∃ wv iv,Own V w (setT S wv iv ws :: rowW wv ws :: rowR iv L :: R) ∧ GoodR ws L N
theorem Own.rot3 {V w:World} {a b c:Thing} {L:List Thing} (h:Own V w (a :: b :: c :: L)):Own V w (c :: a :: b :: L):=h.perm (List.perm_middle (l₁:=[a,b]))
theorem Own.rot3b {V w:World} {a b c:Thing} {L:List Thing} (h:Own V w (c :: a :: b :: L)):Own V w (a :: b :: c :: L):=h.perm (List.perm_middle (l₁:=[a,b])).symm
variable {V w:World} {R:List Thing} {S N:Nat} {ws:List Nat} {L:List ItR}
theorem RangIs.quiet {w':World} (h:RangIs V w R S ws L N) (g:Wider w w'):RangIs V w' R S ws L N:=by
 obtain ⟨wv,iv,H,hl⟩:=h; exact ⟨wv,iv,H.quiet g,hl⟩
theorem RangIs.wider (h:RangIs V w R S ws L N):Wider V w:=by
 obtain ⟨wv,iv,H,hl⟩:=h; exact H.wider
theorem RangIs.rest (h:RangIs V w R S ws L N):Own V w R:=by
 obtain ⟨wv,iv,H,hl⟩:=h; exact H.drop.drop.drop
theorem RangIs.good (h:RangIs V w R S ws L N):GoodR ws L N:=by
 obtain ⟨wv,iv,H,hl⟩:=h; exact hl
theorem RangIs.perm {R':List Thing} (h:RangIs V w R S ws L N) (p:R.Perm R'):RangIs V w R' S ws L N:=by
 obtain ⟨wv,iv,H,hl⟩:=h; exact ⟨wv,iv,H.perm (p.append_left [_,_,_]),hl⟩
theorem RangIs.blk (h:RangIs V w R S ws L N) (C:Array Value) (t:TypeId):RangIs V (w.alloc (.cells C t)) (blkT w.heap.size C t :: R) S ws L N:=by
 obtain ⟨wv,iv,H,hl⟩:=h
 exact ⟨wv,iv,(H.blk C t).perm (List.perm_middle (l₁:=[_,_,_])).symm,hl⟩
theorem RangIs.look (h:RangIs V w R S ws L N):∃ (D A:Option Addr) (cw c:Nat),w.cell? ⟨S,0,none⟩ = some (.slice D ws.length cw) ∧ w.cell? ⟨S,1,none⟩ = some (.int .i64 (ws.sum:Int)) ∧ w.cell? ⟨S,2,none⟩ = some (.slice A L.length c) ∧ WidthsAt w D ws ∧ ItemsAt w A L:=by
 obtain ⟨wv,iv,H,hl⟩:=h
 have c0:=blk_cell H.head 0 (v:=wv) rfl
 have c1:=blk_cell H.head 1 (v:=.int .i64 (ws.sum:Int)) rfl
 have c2:=blk_cell H.head 2 (v:=iv) rfl
 have r1:=H.second
 have r2:=H.drop.second
 obtain ⟨D,cw,rfl⟩:=ownsRow_shape r1
 obtain ⟨A,c,rfl⟩:=ownsRow_shape r2
 exact ⟨D,A,cw,c,c0,c1,c2,widthsAt r1 rfl,itemsAt r2 rfl⟩
set_option maxRecDepth 20000 in
theorem vfind_o (h:RangIs V w R S ws L N) (hN:N < 99990) {key:ByteArray} {v:Int} {b:Bool} (hv:numR (findR ws key L) = v) (hb:(findR ws key L).isSome = b) :
 Calls Tryz.prog 187 #[.pointer (some ⟨S,0,none⟩),.string key] w fun e w' => e = .returned (.tuple #[.int .i64 v,.bool b]) ∧ Wider w w':=by
 obtain ⟨D,A,cw,c,c0,c1,c2,hW,hL⟩:=h.look
 have hl:=h.good
 have i1:=hl.len
 obtain ⟨sz,hsz⟩ : ∃ sz,ws.sum = sz:=⟨_,rfl⟩
 by_cases k:key.size = sz
 · have zb:=fun (W:World) (g:Wider w W) => vbest_c (wkeep g c0) (wkeep g c2) rfl (hW.on g) hl.w4 hl.sum (hL.on g) rfl (by omega) (fun x hx => ⟨(hl.it x hx).1,(hl.it x hx).2.1⟩) (key:=key) (k.trans hsz.symm) rfl
   have e0:findR ws key L = bestF ws key L:=by unfold findR; rw [if_pos (k.trans hsz.symm)]
   rw [e0] at hv hb
   rw [hsz] at c1
   have z0:((key.size:Int) != (sz:Int)) = false:=by rw [k]; simp
   have z1:((key.size:Int) == (sz:Int)) = true:=by rw [k]; simp
   obtain ⟨⟨k0,m0,p0,v0⟩,hx⟩ : ∃ x,(bestF ws key L).getD zeroR = x:=⟨_,rfl⟩
   obtain ⟨o,ho⟩ : ∃ o,bestF ws key L = o:=⟨_,rfl⟩
   rw [ho] at hx hv hb zb
   have ev:v0 = v:=by
    cases o with
    | none => cases hx; exact hv
    | some y => cases hx; exact hv
   rw [hx,hb] at zb
   subst ev
   clear h hW hL hl i1 hsz k e0 hv hx ho hb c0 c2
   go_enter Tryz.func187,Tryz.ntmps187
   go_wp2_with (first
    | (go_at_call 194; ((with_reducible refine (zb _ (Wider.refl w)).mono ?_); rintro e w1 ⟨rfl,g⟩; have G:=g.alloc (.cells #[.string k0,.string m0,.int .i64 p0,.int .i64 v0] 247); clear zb g)))
   simp [bodyPost,results,Tryz.results187,go_sem]
   exact G
 · have e0:findR ws key L = none:=by unfold findR; rw [if_neg (fun q => k (q.trans hsz))]
   rw [e0] at hv hb
   rw [hsz] at c1
   have z0:((key.size:Int) != (sz:Int)) = true:=by simp; omega
   have z1:((key.size:Int) == (sz:Int)) = false:=by simp; omega
   subst hv hb
   clear h hW hL hl i1 hsz e0 c0 c2
   go_enter Tryz.func187,Tryz.ntmps187
   go_wp2
   simp [bodyPost,results,Tryz.results187,go_sem,numR]
   exact Wider.refl w
set_option maxRecDepth 20000 in
theorem vdel_o (h:RangIs V w R S ws L N) (hN:N < 99990) {low high:ByteArray} {prio:Int} {b:Bool} {M:List ItR} (hb:decide (∃ y ∈ L,SameR y ⟨low,high,prio,0⟩) = b) (hM:butR L ⟨low,high,prio,0⟩ = M) :
 Calls Tryz.prog 186 #[.pointer (some ⟨S,0,none⟩),.string low,.string high,.int .i64 prio] w fun e w' => e = .returned (.bool b) ∧ RangIs V w' R S ws M N:=by
 have hl:=h.good
 have i0:=hl.len
 obtain ⟨wv,iv,H,_⟩:=h
 obtain ⟨A0,c,rfl⟩:=ownsRow_shape H.drop.second
 have H1:=((H.blk #[.string low] 9).blk #[.string high] 9).blk #[.int .i64 prio] 3
 have hz1:(w.alloc (.cells #[.string low] 9)).heap.size = w.heap.size + 1:=by simp
 have hz2:((w.alloc (.cells #[.string low] 9)).alloc (.cells #[.string high] 9)).heap.size = w.heap.size + 1 + 1:=by simp
 rw [hz2,hz1] at H1
 have cp:=blk_cell H1.head 0 (v:=.int .i64 prio) rfl
 have ch:=blk_cell H1.second 0 (v:=.string high) rfl
 have cl:=blk_cell H1.drop.second 0 (v:=.string low) rfl
 have H2:=H1.drop.drop.drop
 clear H H1
 have c2:=blk_cell H2.head 2 (v:=.slice A0 L.length c) rfl
 have hI:=itemsAt H2.drop.second rfl
 obtain ⟨n,hn⟩ : ∃ n,L.length = n:=⟨_,rfl⟩
 have hn1:n < 1000000:=by omega
 have HG:=Lib.hid hl
 rcases first_same L ⟨low,high,prio,0⟩ with hno | ⟨A,B,y,e,hy,hA⟩
 · have zi:=vindex_c (p:=w.heap.size + 1 + 1) (l:=w.heap.size) (h:=w.heap.size + 1) (c:=c) hI hn hn1 cp cl ch (.inl ⟨rfl,hno⟩)
   rw [hn] at c2
   rw [butR_none hno] at hM
   rw [decide_eq_false (fun q => by obtain ⟨y,hy,s⟩:=q; exact hno y hy s)] at hb
   subst hM hb
   have HH:=Lib.hid H2
   clear hl hI hno i0 H2 hn hn1 cp ch cl
   go_enter Tryz.func186,Tryz.ntmps186
   go_wp2_with (first
    | (go_at_call 191; ((with_reducible refine zi.mono ?_); rintro e w1 ⟨rfl,g⟩; clear zi)))
   go_ret
   exact ⟨rfl,wv,_,HH.out.quiet g,HG.out⟩
 · have zi:=vindex_c (p:=w.heap.size + 1 + 1) (l:=w.heap.size) (h:=w.heap.size + 1) (c:=c) hI hn hn1 cp cl ch (.inr ⟨A,B,y,e,hy,hA,rfl⟩)
   obtain ⟨hA2,hB2⟩ : (∀ z ∈ A,¬ SameR z ⟨low,high,prio,0⟩) ∧ ∀ z ∈ B,¬ SameR z ⟨low,high,prio,0⟩:=FineR.mid (by rw [← e]; exact hl.nd) hy
   have hl2:=hl.but ⟨low,high,prio,0⟩
   rw [hM] at hl2
   rw [e,butR_mid hA hy hB2] at hM
   rw [decide_eq_true ⟨y,by rw [e]; simp,hy⟩] at hb
   obtain ⟨i,hi⟩ : ∃ i,A.length = i:=⟨_,rfl⟩
   rw [hi] at zi
   have hin:i < n:=by rw [← hi,← hn,e]; simp
   have hM2:M.length = n - 1:=by
    have:=congrArg List.length e
    rw [hn,List.length_append,List.length_cons] at this
    rw [← hM,List.length_append]; omega
   have ecl:(cellsR L).take (i * 4) ++ (cellsR L).drop ((i + 1) * 4) = cellsR M:=by rw [e,← hi,← hM]; exact cellsR_less y
   delta rowR at H2
   rw [hn] at H2 c2
   have H3:=H2.rot3
   have zd:=fun {R':List Thing} (W:World) (HW:Own V W (rowT 247 4 (.slice A0 n c) n (cellsR L) :: R')) => udelR_1 HW (cellsR_one L) hin hn1
   simp only [ecl] at zd
   have HX:=Lib.hid (And.intro hl2 hM2)
   subst hb
   obtain ⟨m,hm⟩ : ∃ m,n - 1 = m:=⟨_,rfl⟩
   rw [hm] at zd hM2
   have q0:(0:Int) ≤ (i:Int):=by omega
   have q1:¬ ((i:Int) < 0):=by omega
   have q2:IntKind.i64.wrap ((i:Int) + 1) = (i:Int) + 1:=by simp [IntKind.wrap,IntKind.bits,IntKind.signed]; omega
   have HM:=Lib.hid hM2
   clear hl hI hy hA hA2 hB2 hM ecl H2 hM2 hl2 hn hi e i0 hin hm cp ch cl hz1 hz2
   go_enter Tryz.func186,Tryz.ntmps186
   go_wp2_with (first
    | (go_at_call 191; ((with_reducible refine zi.mono ?_); rintro e w1 ⟨rfl,g⟩; have H4:=H3.quiet g; replace c2:=wkeep g c2; clear zi H3 g))
    | (go_at_call 193; go_loud ((with_reducible refine (zd _ H4).mono ?_); rintro e w2 ⟨rfl,H5⟩; have H6:=H5.rot3b; clear c2 zd H4 H5; have c2:=blk_cell H6.head 2 (v:=.slice A0 n c) rfl; have f2:=blk_free H6.head 2; have H7:=H6.store 2 (.slice A0 m c))))
   go_ret
   refine ⟨rfl,wv,.slice A0 m c,?_,HX.out.1⟩
   delta rowR
   rw [HM.out]
   exact H7
theorem Own.overV {V w w':World} {L M:List Thing} (H:Own V w L) (K:Own w w' M):Own V w' (M ++ L) where
 holds r m:=by
  rcases List.mem_append.1 m with m | m
  · exact K.holds r m
  · exact (H.quiet K.wider).holds r m
 new r m i hi:=by
  rcases List.mem_append.1 m with m | m
  · exact ⟨Nat.le_trans H.wider.2 (K.new r m i hi).1,(K.new r m i hi).2⟩
  · exact (H.quiet K.wider).new r m i hi
 apart:=List.pairwise_append.2 ⟨K.apart,H.apart,fun a ha b hb i hi hj => by
  have:=(K.new a ha i hi).1
  have:=(H.new b hb i hj).2
  omega⟩
 stable r m:=by
  rcases List.mem_append.1 m with m | m
  · exact K.stable r m
  · exact H.stable r m
 wider:=H.wider.trans K.wider
variable {V w:World} {R:List Thing} {S N:Nat} {ws:List Nat} {L:List ItR}
theorem RangIs.over {w':World} {M:List Thing} (h:RangIs V w R S ws L N) (K:Own w w' M):RangIs V w' (M ++ R) S ws L N:=by
 obtain ⟨wv,iv,H,hl⟩:=h
 refine ⟨wv,iv,(H.overV K).perm ?_,hl⟩
 have p:(M ++ ([setT S wv iv ws,rowW wv ws,rowR iv L] ++ R)).Perm ([setT S wv iv ws,rowW wv ws,rowR iv L] ++ (M ++ R)):=by
  rw [← List.append_assoc,← List.append_assoc]
  exact List.perm_append_comm.append_right R
 exact p
end Go.Proofs.YtbnpelciceblfaaGreat
