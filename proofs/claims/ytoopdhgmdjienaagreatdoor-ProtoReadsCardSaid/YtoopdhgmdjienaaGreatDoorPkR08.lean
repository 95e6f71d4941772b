/- TCodeF TCode OPart -/
import Derived.Test.YtoopdhgmdjienaaGreatDoorPkR07
import Derived.Laws.EntriesVeiled
namespace Go.Proofs.YtoopdhgmdjienaaGreatDoor
set_option linter.unusedVariables false
set_option maxRecDepth 20000
open Go.ChangeShapes Go.WideShapes Go.ChangeAt Go.RowKit Go.Joins
open Go.ChangeMaps (open_string shut_string)
set_option maxHeartbeats 64000000
def leftOf (w:World) (p:Addr):Nat :=
 match w.cell? p with
 | some (.slice _ n _) => n
 | _ => 0
theorem RdAt.left {w:World} {p:Addr} {s:ByteArray} {F:List Nat} (h:RdAt w p s F):leftOf w p = s.size:=by
 obtain ⟨b,B,off,cap,rfl,rfl,h⟩:=h
 unfold leftOf; rw [h.cell]
theorem tattr_any {V w:World} {L:List Thing} {p:Addr} {S:ByteArray} {F:List Nat} (H:Own V w (rdT p S F :: L)) (hs:S.size < 1000000) (h0:S.size ≠ 0) {acc:List AtN} {q:Nat} {m:List AtN} {c:Nat} (hd:decA acc q S.data.toList = (m,c)) :
 (m = [] ∧ Calls Tryz.prog 79 #[.pointer (some p),.int .u8 (q:Int)] w fun e w' => e = .panicked (thrown c) ∧ ∃ Y,Own V w' (rdT p Y F :: L)) ∨
 (∃ (t:Nat) (X Y:ByteArray),t < 256 ∧ Y.size + 1 ≤ S.size ∧ decA (acc ++ [⟨t,X⟩]) t Y.data.toList = (m,c) ∧ Calls Tryz.prog 79 #[.pointer (some p),.int .u8 (q:Int)] w fun e w' => e = .returned (.agg #[.int .u8 (t:Int),.string X]) ∧ Own V w' (rdT p Y F :: L)):=by
 by_cases z3:S.size < 3
 · rw [decA_short _ _ _ (by intro q; apply h0; rw [size_data,q]; rfl) (by rw [← size_data]; exact z3)] at hd
   obtain ⟨rfl,rfl⟩ : [] = m ∧ 4 = c:=by injection hd with a b; exact ⟨a,b⟩
   exact .inl ⟨rfl,tattr_qs H (by omega) z3 q⟩
 · obtain ⟨t,a,b,r,hS⟩:=three S.data.toList (by rw [← size_data]; omega)
   have hrl:r.length + 3 = S.size:=by rw [size_data,hS]; simp
   rw [hS,decA_some] at hd
   by_cases q1:t.toNat ≤ q ∨ unword a b = 0
   · rw [if_pos q1] at hd
     obtain ⟨rfl,rfl⟩ : [] = m ∧ 3 = c:=by injection hd with a b; exact ⟨a,b⟩
     exact .inl ⟨rfl,tattr_q3 H hs hS rfl q1⟩
   · rw [if_neg q1] at hd
     by_cases q3:r.length < unword a b
     · rw [if_pos q3] at hd
       obtain ⟨rfl,rfl⟩ : [] = m ∧ 4 = c:=by injection hd with a b; exact ⟨a,b⟩
       exact .inl ⟨rfl,tattr_q4 H hs hS rfl q3 (fun e => q1 (.inr e)) (fun e => q1 (.inl e))⟩
     · rw [if_neg q3] at hd
       refine .inr ⟨t.toNat,S.extract 3 (3 + unword a b),S.extract (3 + unword a b) S.size,t.toNat_lt,by rw [extract_size]; omega,?_,tattr_o H hs hS rfl (by omega) (fun e => q1 (.inr e)) (fun e => q1 (.inl e)) rfl rfl⟩
       have hV:mkB (r.take (unword a b)) = S.extract 3 (3 + unword a b):=by
        apply ba_ext; rw [mkB_data,extract_list,hS]
        rw [show 3 + unword a b = unword a b + 1 + 1 + 1 by omega]
        simp
       have hW:(S.extract (3 + unword a b) S.size).data.toList = r.drop (unword a b):=by
        rw [extract_tail,hS,show 3 + unword a b = unword a b + 1 + 1 + 1 by omega]; simp only [List.drop_succ_cons]
       rw [← hV,hW]; exact hd
theorem titem_any (V:World) (p:Addr) {S:ByteArray} (F:List Nat) (hs:S.size < 1000000) (h0:S.size ≠ 0) {acc:List ByteArray} {most:Int} {m:List ByteArray} {c:Nat} (hd:decT acc most S.data.toList = (m,c)) {room:Bool} (hroom:decide ((acc.length:Int) < most) = room) :
 (m = [] ∧ ∀ (w:World) (L:List Thing),Own V w (rdT p S F :: L) → Calls Tryz.prog 160 #[.pointer (some p),.bool room] w fun e w' => e = .panicked (thrown c) ∧ ∃ Y,Own V w' (rdT p Y F :: L)) ∨
 (∃ (X Y:ByteArray),Y.size + 1 ≤ S.size ∧ decT (acc ++ [X]) most Y.data.toList = (m,c) ∧ ∀ (w:World) (L:List Thing),Own V w (rdT p S F :: L) → Calls Tryz.prog 160 #[.pointer (some p),.bool room] w fun e w' => e = .returned (.string X) ∧ Own V w' (rdT p Y F :: L)):=by
 by_cases z3:S.size < 2
 · rw [decT_short _ _ _ (by intro q; apply h0; rw [size_data,q]; rfl) (by rw [← size_data]; exact z3)] at hd
   obtain ⟨rfl,rfl⟩ : [] = m ∧ 4 = c:=by injection hd with a b; exact ⟨a,b⟩
   exact .inl ⟨rfl,fun w L H => titem_q2 H z3 room⟩
 · obtain ⟨a,b,r,hS⟩:=pair2 S.data.toList (by rw [← size_data]; omega)
   have hrl:r.length + 2 = S.size:=by rw [size_data,hS]; simp
   rw [hS,decT_some] at hd
   by_cases q1:most ≤ (acc.length:Int)
   · rw [if_pos q1] at hd
     obtain ⟨rfl,rfl⟩ : [] = m ∧ 3 = c:=by injection hd with a b; exact ⟨a,b⟩
     obtain rfl:room = false:=by rw [← hroom]; exact decide_eq_false (by omega)
     exact .inl ⟨rfl,fun w L H => titem_q3 H hs hS⟩
   · rw [if_neg q1] at hd
     obtain rfl:room = true:=by rw [← hroom]; exact decide_eq_true (by omega)
     by_cases q3:r.length < unword a b
     · rw [if_pos q3] at hd
       obtain ⟨rfl,rfl⟩ : [] = m ∧ 4 = c:=by injection hd with a b; exact ⟨a,b⟩
       exact .inl ⟨rfl,fun w L H => titem_q4 H hs hS rfl q3⟩
     · rw [if_neg q3] at hd
       refine .inr ⟨S.extract 2 (2 + unword a b),S.extract (2 + unword a b) S.size,by rw [extract_size]; omega,?_,fun w L H => titem_o H hs hS rfl (by omega) rfl rfl⟩
       have hV:mkB (r.take (unword a b)) = S.extract 2 (2 + unword a b):=by
        apply ba_ext; rw [mkB_data,extract_list,hS]
        rw [show 2 + unword a b = unword a b + 1 + 1 by omega]
        simp
       have hW:(S.extract (2 + unword a b) S.size).data.toList = r.drop (unword a b):=by
        rw [extract_tail,hS,show 2 + unword a b = unword a b + 1 + 1 by omega]; simp only [List.drop_succ_cons]
       rw [← hV,hW]; exact hd
set_option maxRecDepth 4000 in
theorem tdec_a (s:ByteArray) (w:World) (hs:s.size < 1000000) {m:List AtN} {c:Nat} (hr:decA [] 0 s.data.toList = (m,c)) :
 Calls Tryz.prog 38 #[.string s] w fun e w' => ∃ v,e = .returned (.tuple #[v,.int .i64 (c:Int)]) ∧ Wider w w' ∧ w'.ownsRow w.heap.size 89 2 v m.length (cellsA m):=by
 have hmf:∀ (fn:Fn) (first cap:Array Value) (w:World),(Instr.makeFunc fn first cap).run Tryz.prog w = .ok (.func fn first cap) w:=fun _ _ _ _ => rfl
 have H0:=((Own.nil (Wider.refl w)).blk #[.slice none 0 0] 82).blk #[.int .i64 0] 53
 have hz:(w.alloc (.cells #[.slice none 0 0] 82)).heap.size = w.heap.size + 1:=by simp
 rw [hz] at H0
 have HR:=Lib.hid hr
 have zr:=fun W:World => tnewr_a s W
 obtain ⟨i0,hi,hz0,hz1,hz2⟩:=info_parts infoTlv
 clear hr hz
 go_enter_defers Tryz.func38,Tryz.ntmps38
 go_wp2_with (go_at_call 77; ((with_reducible refine (zr _).mono ?_); rintro e w2 ⟨p,F,rfl,g,hR,hF⟩; have H1:=H0.make g hR (rdAt_stable _ _ _) hF))
 have P0:Own w w2 [rdT p s F,blkT (w.heap.size + 1) #[.int .i64 0] 53,blkT w.heap.size #[.slice none 0 0] 82,rowT 89 2 (.slice none 0 0) 0 (cellsA [])]:=H1.nils _ _
 clear H0 H1 hR hF g zr
 go_loopw [5] (fun z wr => ∃ (S:ByteArray) (acc:List AtN) (n:Nat) (v:Value) (q:Nat),z = .int .u8 (q:Int) ∧ acc.length = n ∧ Own w wr [rdT p S F,blkT (w.heap.size + 1) #[.int .i64 0] 53,blkT w.heap.size #[v] 82,rowT 89 2 v n (cellsA acc)] ∧ decA acc q S.data.toList = (m,c) ∧ n + S.size ≤ s.size) (fun _ wr => leftOf wr p)
 case atStart => exact ⟨s,[],0,_,0,rfl,rfl,P0,HR.out,by omega⟩
 case round =>
  obtain ⟨S,acc,n,v,q,rfl,hn,H,hd,hl⟩:=hrel
  have HN:=Lib.hid hn
  have HD:=Lib.hid hd
  have HQ:=Lib.hid P0
  clear hn hd P0
  obtain ⟨A,cp,rfl⟩:=ownsRow_shape H.drop.drop.drop.head
  have cl:=blk_cell H.drop.drop.head 0 (v:=.slice A n cp) rfl
  have fl:=blk_free H.drop.drop.head 0
  have ce:=blk_cell H.drop.head 0 (v:=.int .i64 0) rfl
  have fe:=blk_free H.drop.head 0
  by_cases z0:S.size = 0
  · have t0:S.data.toList = []:=List.eq_nil_of_length_eq_zero (by rw [← size_data]; exact z0)
    have e:=HD.out
    rw [t0,decA_nil] at e
    obtain ⟨rfl,rfl⟩ : acc = m ∧ 0 = c:=by injection e with a b; exact ⟨a,b⟩
    have zm:=tmore_a H.head (b:=false) (by simp [z0])
    have H5:=Lib.hid ((H.third.store 0 (.slice A n cp)).third.store 0 (.int .i64 0))
    clear t0 z0 e
    go_wp2_with (go_at_call 78; ((with_reducible refine zm.mono ?_); rintro e w3 ⟨rfl,rfl⟩))
    have H6:=H5.out
    obtain ⟨w5,hw5⟩ : ∃ w5,(w3.setCell ⟨w.heap.size,0,none⟩ (.slice A n cp)).setCell ⟨w.heap.size + 1,0,none⟩ (.int .i64 0) = w5:=⟨_,rfl⟩
    rw [hw5] at H6 ⊢
    have d1:=blk_cell H6.head 0 (v:=.int .i64 0) rfl
    have d0:=blk_cell H6.drop.head 0 (v:=.slice A n cp) rfl
    refine leaves_cons (f:=76) (args:=#[.pointer (some ⟨w.heap.size,0,none⟩),.pointer (some ⟨w.heap.size + 1,0,none⟩)]) (by simp) (by simp [go_sem]) ?_
    refine (dcatch_i _).mono ?_
    rintro e u' w'' ⟨rfl,rfl,rfl⟩
    simp [Leaves,settle,results,Tryz.results38,go_sem,d0,d1]
    exact ⟨H6.wider,by rw [HN.out]; exact own_base H6.fourth⟩
  · have zm:=tmore_a H.head (b:=true) (by simp; omega)
    rcases tattr_any H (by omega) z0 HD.out with ⟨rfl,za⟩ | ⟨t,X,Y,lt,hYs,hd2,za⟩
    · clear z0
      go_wp2_with (first
       | (go_at_call 78; ((with_reducible refine zm.mono ?_); rintro e w3 ⟨rfl,rfl⟩))
       | (go_at_call 79; ((with_reducible refine za.mono ?_); rintro e w4 ⟨rfl,Y,H4⟩)))
      refine leaves_cons (f:=76) (args:=#[.pointer (some ⟨w.heap.size,0,none⟩),.pointer (some ⟨w.heap.size + 1,0,none⟩)]) (by simp) (by simp [go_sem]) ?_
      refine (dcatch_p H4.drop c []).mono ?_
      rintro e u' w5 ⟨rfl,rfl,H6⟩
      have d1:=blk_cell H6.head 0 (v:=.int .i64 (c:Int)) rfl
      have d0:=blk_cell H6.drop.head 0 (v:=.slice none 0 0) rfl
      simp [Leaves,settle,results,Tryz.results38,go_sem,d0,d1]
      exact ⟨H6.wider,World.ownsRow_nil _ _ _ _⟩
    · have HD2:=Lib.hid hd2
      have HL:=Lib.hid H.head.left
      have S3:Hid (n + 1 ≤ maxLen):=by show n + 1 ≤ maxLen; unfold maxLen; omega
      have S4:Hid ((n + 1) * 24 ≤ 140737488355328):=by show (n + 1) * 24 ≤ 140737488355328; omega
      have SN:=Lib.hid (cellsA_snoc acc ⟨t,X⟩).symm
      have KEY:Hid (∀ w4,Own w w4 [rdT p Y F,blkT (w.heap.size + 1) #[.int .i64 0] 53,blkT w.heap.size #[.slice A n cp] 82,rowT 89 2 (.slice A n cp) n (cellsA acc)] →
       (w4.alloc (.cells #[.int .u8 (t:Int),.string X] 89)).cell? ⟨w.heap.size,0,none⟩ = some (.slice A n cp) ∧
       (w4.alloc (.cells #[.int .u8 (t:Int),.string X] 89)).cell? ⟨w4.heap.size,0,none⟩ = some (.int .u8 (t:Int)) ∧
       (w4.alloc (.cells #[.int .u8 (t:Int),.string X] 89)).cell? ⟨w4.heap.size,1,none⟩ = some (.string X) ∧
       Hid (Own w ((w4.alloc (.cells #[.int .u8 (t:Int),.string X] 89)).alloc (.cells #[.int .u8 (t:Int),.string X] 89)) [rowT 89 2 (.slice A n cp) n (cellsA acc),rdT p Y F,blkT (w.heap.size + 1) #[.int .i64 0] 53,blkT w.heap.size #[.slice A n cp] 82]) ∧
       Hid ((∀ a,some (⟨w4.heap.size + 1,0,none⟩ : Addr) = some a → ∀ (j:Nat) (u:Value),([.int .u8 (t:Int),.string X] : List Value)[j]? = some u → ((w4.alloc (.cells #[.int .u8 (t:Int),.string X] 89)).alloc (.cells #[.int .u8 (t:Int),.string X] 89)).cell? (a.add j) = some u) ∧ (∀ x ∈ ([.int .u8 (t:Int),.string X] : List Value),x.oneCell' = true))):=by
       intro w4 H4
       have n2:=new2 w4 (.int .u8 (t:Int)) (.string X) 89
       have li:=lies2 (w4.alloc (.cells #[.int .u8 (t:Int),.string X] 89)) (.int .u8 (t:Int)) (.string X) 89 rfl rfl
       have ez:(w4.alloc (.cells #[.int .u8 (t:Int),.string X] 89)).heap.size = w4.heap.size + 1:=by simp
       rw [ez] at li
       exact ⟨kalloc (blk_cell H4.drop.drop.head 0 rfl),n2.1,n2.2.1,H4.fourth.quiet (((Wider.refl w4).alloc _).alloc _),fun a e => by cases e; exact li.1,li.2⟩
      clear hd2 z0
      go_wp2_with (first
       | (go_at_call 78; ((with_reducible refine zm.mono ?_); rintro e w3 ⟨rfl,rfl⟩))
       | (go_at_call 79; ((with_reducible refine za.mono ?_); rintro e w4 ⟨rfl,H4⟩; obtain ⟨k0,k1,k2,K3,K4⟩:=KEY.out w4 H4; clear KEY H4))
       | (at_builtin; refine wpList_append_thing rfl (.tmp 17) (.tmp 19) 82 rfl 89 i0 (.agg #[.int .u8 0,.string ⟨#[]⟩]) 2 24 Tryz.underlying82 hi hz0 hz1 hz2 rfl (by decide) _ _ _ rfl K3.out (some ⟨w4.heap.size + 1,0,none⟩) 1 1 [.int .u8 (t:Int),.string X] rfl rfl (fun e => by cases e) K4.out.1 K4.out.2 S3.out S4.out rfl SN.out ?_; intro B2 c2 w5 H5; have g0:=blk_cell H5.drop.drop.drop.head 0 (v:=.slice A n cp) rfl; have g1:=blk_free H5.drop.drop.drop.head 0))
      have H6:Own w (w5.setCell ⟨w.heap.size,0,none⟩ (.slice B2 (n + 1) c2)) [rdT p Y F,blkT (w.heap.size + 1) #[.int .i64 0] 53,blkT w.heap.size #[.slice B2 (n + 1) c2] 82,rowT 89 2 (.slice B2 (n + 1) c2) (n + 1) (cellsA (acc ++ [⟨t,X⟩]))]:=(H5.fourth.store 0 (.slice B2 (n + 1) c2)).third.fourth.swap
      go_roundw
      case rel => exact ⟨Y,acc ++ [⟨t,X⟩],n + 1,.slice B2 (n + 1) c2,t,rfl,by simp [HN.out],H6,HD2.out,by omega⟩
      case measure =>
       rw [H6.head.left]
       have:=HL.out
       omega
theorem step_append_thing {P:Program} {V w:World} {L:List Thing} {ops:Array Oper} {o:Oper} {a:Act} {K:Act → World → Prop} {Q:Exit → Act → World → Prop} {E:Prop} (hgd:o.guard = none) (s x:Operand) (t:TypeId)
 (ho:o.op = Op.call { callee:=Callee.builtin Builtin.append,args:=#[s,x],argTypes:=#[t,t] })
 (e:TypeId) (i:TypeInfo) (z:Value) (size bytes:Nat) (ht:P.underlying t = some (.slice e)) (hi:P.info? e = some i) (hz:i.zero = some z)
 (hsize:i.size = size) (hby:i.bytes = bytes) (hzs:z.cells.size = size) (hsz:0 < size)
 (v:Value) (n:Nat) (xs:List Value) (hs:a.eval s = v) (H:Own V w (rowT e size v n xs :: L))
 (A:Option Addr) (m c:Nat) (news:List Value) (hx:a.eval x = .slice A m c) (hl:news.length = m * size) (h0:A = none → m = 0) (hnews:∀ a,A = some a → ∀ j u,news[j]? = some u → w.cell? (a.add j) = some u) (h1:∀ u ∈ news,u.oneCell' = true)
 (h63:n + m ≤ maxLen) (hbytes:(n + m) * bytes ≤ 140737488355328) {k:Nat} (hk:n + m = k) {ys:List Value} (hys:xs ++ news = ys)
 (h:∀ B c2 w',Own V w' (rowT e size (.slice B k c2) k ys :: L) → K (a.put o.dst (.slice B k c2)) w') :
 if Region.wanted o (yielded ops a.tmps) = true then Oper.wp P o a w K Q else E:=by
 subst hk hys
 have hw:Region.wanted o (yielded ops a.tmps) = true:=by simp [Region.wanted,hgd]
 rw [if_pos hw]
 obtain ⟨v',w',hr,h2,h3⟩:=run_append_any (P:=P) w 0 t o.type e i z size bytes ht hi hz hsize hby hzs hsz v n xs H.head A m c news hl h0 hnews h1 h63 hbytes (Nat.zero_le _)
 have hb:=append_block (P:=P) ht hi hz hsize hby hzs hsz H.head hl h0 hnews h1 h63 hbytes hr
 unfold Oper.wp execOp
 simp only [ho,resolve,invoke,builtin,Sem.run_bind,Sem.run_pure,Result.andThen_ok,List.map_toArray,List.map_cons,List.map_nil,hs,hx,hr]
 obtain ⟨B,c2,rfl⟩:=ownsRow_shape h2
 refine h B c2 w' (H.turn (s:=rowT e size (.slice B (n + m) c2) (n + m) (xs ++ news)) (grownBy_but h3) h2 (rowT_stable _ _ _ _ _) fun j hj => ?_)
 have hj2:(Value.slice B (n + m) c2).ownBlock = some j:=by simpa using hj
 refine ⟨?_,(h2.lt j hj2).2⟩
 rcases hb j hj2 with q | q
 · exact .inl (by simp [q])
 · exact .inr q
theorem infoS:(Tryz.prog.info? 9).map (fun i => (i.zero,i.size,i.bytes)) = some (some (.string ⟨#[]⟩),1,16):=by kernel_rfl
set_option maxRecDepth 4000 in
theorem treadlist_a (s:ByteArray) (most:Int) (w:World) (hs:s.size < 1000000) (m0:-9223372036854775808 ≤ most) (m1:most ≤ 9223372036854775807) {m:List ByteArray} {c:Nat} (hr:decT [] most s.data.toList = (m,c)) :
 Calls Tryz.prog 123 #[.string s,.int .i64 most] w fun e w' => ∃ v,e = .returned (.tuple #[v,.int .i64 (c:Int)]) ∧ Wider w w' ∧ w'.ownsRow w.heap.size 9 1 v m.length (cellsS m):=by
 have hmf:∀ (fn:Fn) (first cap:Array Value) (w:World),(Instr.makeFunc fn first cap).run Tryz.prog w = .ok (.func fn first cap) w:=fun _ _ _ _ => rfl
 have H0:=((Own.nil (Wider.refl w)).blk #[.slice none 0 0] 152).blk #[.int .i64 0] 53
 have hz:(w.alloc (.cells #[.slice none 0 0] 152)).heap.size = w.heap.size + 1:=by simp
 rw [hz] at H0
 have HR:=Lib.hid hr
 have zr:=fun W:World => tnewr_a s W
 obtain ⟨i0,hi,hz0,hz1,hz2⟩:=info_parts infoS
 clear hr hz
 go_enter_defers Tryz.func123,Tryz.ntmps123
 go_wp2_with (go_at_call 77; ((with_reducible refine (zr _).mono ?_); rintro e w2 ⟨p,F,rfl,g,hR,hF⟩; have H1:=H0.make g hR (rdAt_stable _ _ _) hF))
 have P0:Own w w2 [rdT p s F,blkT (w.heap.size + 1) #[.int .i64 0] 53,blkT w.heap.size #[.slice none 0 0] 152,rowT 9 1 (.slice none 0 0) 0 (cellsS [])]:=H1.nils _ _
 clear H0 H1 hR hF g zr
 go_loopw [12] (fun _ wr => ∃ (S:ByteArray) (acc:List ByteArray) (n:Nat) (v:Value),acc.length = n ∧ Own w wr [rdT p S F,blkT (w.heap.size + 1) #[.int .i64 0] 53,blkT w.heap.size #[v] 152,rowT 9 1 v n (cellsS acc)] ∧ decT acc most S.data.toList = (m,c) ∧ n + S.size ≤ s.size) (fun _ wr => leftOf wr p)
 case atStart => exact ⟨s,[],0,_,rfl,P0,HR.out,by omega⟩
 case round =>
  obtain ⟨S,acc,n,v,hn,H,hd,hl⟩:=hrel
  have HN:=Lib.hid hn
  have HD:=Lib.hid hd
  have HQ:=Lib.hid P0
  clear hn hd P0
  obtain ⟨A,cp,rfl⟩:=ownsRow_shape H.drop.drop.drop.head
  have cl:=blk_cell H.drop.drop.head 0 (v:=.slice A n cp) rfl
  have fl:=blk_free H.drop.drop.head 0
  have ce:=blk_cell H.drop.head 0 (v:=.int .i64 0) rfl
  have fe:=blk_free H.drop.head 0
  by_cases z0:S.size = 0
  · have t0:S.data.toList = []:=List.eq_nil_of_length_eq_zero (by rw [← size_data]; exact z0)
    have e:=HD.out
    rw [t0,decT_nil] at e
    obtain ⟨rfl,rfl⟩ : acc = m ∧ 0 = c:=by injection e with a b; exact ⟨a,b⟩
    have zm:=tmore_a H.head (b:=false) (by simp [z0])
    have H5:=Lib.hid ((H.third.store 0 (.slice A n cp)).third.store 0 (.int .i64 0))
    clear t0 z0 e
    go_wp2_with (go_at_call 78; ((with_reducible refine zm.mono ?_); rintro e w3 ⟨rfl,rfl⟩))
    have H6:=H5.out
    obtain ⟨w5,hw5⟩ : ∃ w5,(w3.setCell ⟨w.heap.size,0,none⟩ (.slice A n cp)).setCell ⟨w.heap.size + 1,0,none⟩ (.int .i64 0) = w5:=⟨_,rfl⟩
    rw [hw5] at H6 ⊢
    have d1:=blk_cell H6.head 0 (v:=.int .i64 0) rfl
    have d0:=blk_cell H6.drop.head 0 (v:=.slice A n cp) rfl
    refine leaves_cons (f:=159) (args:=#[.pointer (some ⟨w.heap.size,0,none⟩),.pointer (some ⟨w.heap.size + 1,0,none⟩)]) (by simp) (by simp [go_sem]) ?_
    refine (lcatch_i _).mono ?_
    rintro e u' w'' ⟨rfl,rfl,rfl⟩
    simp [Leaves,settle,results,Tryz.results123,go_sem,d0,d1]
    exact ⟨H6.wider,by rw [HN.out]; exact own_base H6.fourth⟩
  · have zm:=tmore_a H.head (b:=true) (by simp; omega)
    obtain ⟨room,hroom⟩ : ∃ room,decide ((acc.length:Int) < most) = room:=⟨_,rfl⟩
    have zi:=titem_any w p F (by omega) z0 HD.out hroom
    rw [HN.out] at hroom
    rcases zi with ⟨rfl,za⟩ | ⟨X,Y,hYs,hd2,za⟩
    · clear z0
      go_upto_region 4 with (go_at_call 78; ((with_reducible refine zm.mono ?_); rintro e w3 ⟨rfl,rfl⟩))
      have H3:=za _ _ (H.quiet (Wider.refl _).drew)
      refine Code.wp_mono (Q:=fun e a wq => match e with
       | .panic ch => ((a.tmps[4]? = some (.pointer (some ⟨w.heap.size,0,none⟩)) ∧ a.tmps[5]? = some (.pointer (some ⟨w.heap.size + 1,0,none⟩)) ∧ a.defers = [{ target:=.fn (.func 159) #[.pointer (some ⟨w.heap.size,0,none⟩),.pointer (some ⟨w.heap.size + 1,0,none⟩)],args:=#[] }])) ∧ ch = thrown c ∧ ∃ Y,Own w wq [rdT p Y F,blkT (w.heap.size + 1) #[.int .i64 0] 53,blkT w.heap.size #[.slice A n cp] 152,rowT 9 1 (.slice A n cp) n (cellsS acc)]
       | _ => False) ?_ ?_
      · intro e a wq hq
        cases e with
        | panic ch =>
          obtain ⟨⟨h4,h5,hdf⟩,rfl,Y,H4⟩:=hq
          obtain ⟨T,D⟩:=a
          subst hdf
          simp only at h4 h5
          show bodyPostD _ _ _ (Exit.panic (thrown c)) _ _
          refine leaves_cons (f:=159) (args:=#[.pointer (some ⟨w.heap.size,0,none⟩),.pointer (some ⟨w.heap.size + 1,0,none⟩)]) (by simp) (by simp [go_sem]) ?_
          refine (lcatch_p H4.drop c []).mono ?_
          rintro e u' w5 ⟨rfl,rfl,H6⟩
          have d1:=blk_cell H6.head 0 (v:=.int .i64 (c:Int)) rfl
          have d0:=blk_cell H6.drop.head 0 (v:=.slice none 0 0) rfl
          simp [Leaves,settle,results,Tryz.results123,go_sem,d0,d1,h4,h5]
          exact ⟨H6.wider,World.ownsRow_nil _ _ _ _⟩
        | _ => exact hq.elim
      · have put:∀ (d:Nat) (v:Value),d ≠ 4 → d ≠ 5 → ∀ (ch:List PanicEntry) (a:Act) (wq:World),
         (((a.put (some d) v).tmps[4]? = some (.pointer (some ⟨w.heap.size,0,none⟩)) ∧ (a.put (some d) v).tmps[5]? = some (.pointer (some ⟨w.heap.size + 1,0,none⟩)) ∧ (a.put (some d) v).defers = [{ target:=.fn (.func 159) #[.pointer (some ⟨w.heap.size,0,none⟩),.pointer (some ⟨w.heap.size + 1,0,none⟩)],args:=#[] }])) ∧ ch = thrown c ∧ (∃ Y,Own w wq [rdT p Y F,blkT (w.heap.size + 1) #[.int .i64 0] 53,blkT w.heap.size #[.slice A n cp] 152,rowT 9 1 (.slice A n cp) n (cellsS acc)]) →
         ((a.tmps[4]? = some (.pointer (some ⟨w.heap.size,0,none⟩)) ∧ a.tmps[5]? = some (.pointer (some ⟨w.heap.size + 1,0,none⟩)) ∧ a.defers = [{ target:=.fn (.func 159) #[.pointer (some ⟨w.heap.size,0,none⟩),.pointer (some ⟨w.heap.size + 1,0,none⟩)],args:=#[] }])) ∧ ch = thrown c ∧ (∃ Y,Own w wq [rdT p Y F,blkT (w.heap.size + 1) #[.int .i64 0] 53,blkT w.heap.size #[.slice A n cp] 152,rowT 9 1 (.slice A n cp) n (cellsS acc)]):=by
         rintro d v d4 d5 ch a wq ⟨⟨h4,h5,hdf⟩,hh⟩
         refine ⟨⟨?_,?_,hdf⟩,hh⟩
         · rw [← h4]; simp [Act.put,d4]
         · rw [← h5]; simp [Act.put,d5]
        refine wp_region_held_drew (S:=fun w' => w'.cell? ⟨w.heap.size,0,none⟩ = some (.slice A n cp)) (by kernel_rfl) cl fun hHeld => ?_
        refine wpAnyH_take (i:=0) (v:=.slice A n cp) rfl (by kernel_rfl) (by kernel_rfl) (by kernel_rfl) (put 12 _ (by decide) (by decide)) (Or.inl ⟨by rfl,?_⟩) hHeld ?_
        · intro w' hS
          (try dsimp only at hS)
          go_simp
        simp only [Act.put]
        refine wpAnyH_take (i:=1) (v:=.pointer (some p)) rfl (by kernel_rfl) (by kernel_rfl) (by kernel_rfl) (put 13 _ (by decide) (by decide)) (Or.inl ⟨by rfl,?_⟩) hHeld ?_
        · intro w' hS
          (try dsimp only at hS)
          go_simp
        simp only [Act.put]
        refine wpAnyH_take (i:=2) (v:=.slice A n cp) rfl (by kernel_rfl) (by kernel_rfl) (by kernel_rfl) (put 14 _ (by decide) (by decide)) (Or.inl ⟨by rfl,?_⟩) hHeld ?_
        · intro w' hS
          (try dsimp only at hS)
          go_simp
        simp only [Act.put]
        refine wpAnyH_take (i:=3) (v:=.int .i64 (n:Int)) rfl (by kernel_rfl) (by kernel_rfl) (by kernel_rfl) (put 15 _ (by decide) (by decide)) (Or.inl ⟨by rfl,?_⟩) hHeld ?_
        · intro w' hS
          (try dsimp only at hS)
          go_simp
        simp only [Act.put]
        refine wpAnyH_take (i:=4) (v:=.int .i64 most) rfl (by kernel_rfl) (by kernel_rfl) (by kernel_rfl) (put 16 _ (by decide) (by decide)) (Or.inl ⟨by rfl,?_⟩) hHeld ?_
        · intro w' hS
          (try dsimp only at hS)
          go_simp
        simp only [Act.put]
        refine wpAnyH_take (i:=5) (v:=.bool room) rfl (by kernel_rfl) (by kernel_rfl) (by kernel_rfl) (put 17 _ (by decide) (by decide)) (Or.inl ⟨by rfl,?_⟩) hHeld ?_
        · intro w' hS
          (try dsimp only at hS)
          go_simp
        simp only [Act.put]
        refine wpAnyH_ready (rs:=[6]) (by kernel_rfl) (by simp) ?_
        refine AllReadyH.cons rfl (fun K hK => ?_) AllReadyH.nil
        go_simp
        go_at_call 160
        refine H3.mono ?_
        rintro e w4 ⟨rfl,Y,H4⟩
        exact ⟨rfl,Y,H4⟩
    · have HD2:=Lib.hid hd2
      have HL:=Lib.hid H.head.left
      have S3:Hid (n + 1 ≤ maxLen):=by show n + 1 ≤ maxLen; unfold maxLen; omega
      have S4:Hid ((n + 1) * 16 ≤ 140737488355328):=by show (n + 1) * 16 ≤ 140737488355328; omega
      have SN:=Lib.hid (cellsS_snoc acc X).symm
      have KEY:Hid (∀ w4,Own w w4 [rdT p Y F,blkT (w.heap.size + 1) #[.int .i64 0] 53,blkT w.heap.size #[.slice A n cp] 152,rowT 9 1 (.slice A n cp) n (cellsS acc)] →
       w4.cell? ⟨w.heap.size,0,none⟩ = some (.slice A n cp) ∧ (w4.alloc (.cells #[.string X] 9)).cell? ⟨w.heap.size,0,none⟩ = some (.slice A n cp) ∧
       Hid (Own w (w4.alloc (.cells #[.string X] 9)) [rowT 9 1 (.slice A n cp) n (cellsS acc),rdT p Y F,blkT (w.heap.size + 1) #[.int .i64 0] 53,blkT w.heap.size #[.slice A n cp] 152]) ∧
       Hid ((∀ a,some (⟨w4.heap.size,0,none⟩ : Addr) = some a → ∀ (j:Nat) (u:Value),([.string X] : List Value)[j]? = some u → (w4.alloc (.cells #[.string X] 9)).cell? (a.add j) = some u) ∧ (∀ x ∈ ([.string X] : List Value),x.oneCell' = true))):=by
       intro w4 H4
       have li:=lies1 w4 (.string X) 9 rfl
       exact ⟨blk_cell H4.drop.drop.head 0 rfl,kalloc (blk_cell H4.drop.drop.head 0 rfl),H4.fourth.quiet ((Wider.refl w4).alloc _),fun a e => by cases e; exact li.1,li.2⟩
      clear hd2 z0
      go_upto_region 4 with (go_at_call 78; ((with_reducible refine zm.mono ?_); rintro e w3 ⟨rfl,rfl⟩))
      have H3:=za _ _ (H.quiet (Wider.refl _).drew)
      refine wp_region_noPanic ?_
      go_region_law (first
       | (refine step_append_thing rfl (.tmp 12) (.tmp 19) 152 rfl 9 i0 (.string ⟨#[]⟩) 1 16 Tryz.underlying152 hi hz0 hz1 hz2 rfl (by decide) _ _ _ rfl K3.out (some ⟨w4.heap.size,0,none⟩) 1 1 [.string X] rfl rfl (fun e => by cases e) K4.out.1 K4.out.2 S3.out S4.out rfl SN.out ?_; intro B2 c2 w5 H5; have g0:=blk_cell H5.drop.drop.drop.head 0 (v:=.slice A n cp) rfl; have g1:=blk_free H5.drop.drop.drop.head 0)
       | (go_simp; go_at_call 160; ((with_reducible refine H3.mono ?_); rintro e w4 ⟨rfl,H4⟩; obtain ⟨k0,k1,K3,K4⟩:=KEY.out w4 H4; clear H4)))
      all_goals
       refine NoPanic.normal ?_
       have H6:Own w (w5.setCell ⟨w.heap.size,0,none⟩ (.slice B2 (n + 1) c2)) [rdT p Y F,blkT (w.heap.size + 1) #[.int .i64 0] 53,blkT w.heap.size #[.slice B2 (n + 1) c2] 152,rowT 9 1 (.slice B2 (n + 1) c2) (n + 1) (cellsS (acc ++ [X]))]:=(H5.fourth.store 0 (.slice B2 (n + 1) c2)).third.fourth.swap
       go_wp2
       go_roundw
       case rel => exact ⟨Y,acc ++ [X],n + 1,.slice B2 (n + 1) c2,by simp [HN.out],H6,HD2.out,by omega⟩
       case measure =>
        rw [H6.head.left]
        have:=HL.out
        omega
def PutR {β:Type} (c:Cod β) (x:β) (T:ByteArray) (r:Nat):Prop:=(c.ok x ∧ T = c.enc x ∧ r = 0) ∨ (¬ c.ok x ∧ T = ⟨#[]⟩ ∧ r = 3)
def PutG {β:Type} (cs:List (Cod β)) (xs:List β) (T:ByteArray) (r:Nat):Prop:=(okG cs xs ∧ T = encG cs xs ∧ r = 0) ∨ (¬ okG cs xs ∧ T = ⟨#[]⟩ ∧ r = 3)
structure FnP where
 pf:FuncId
 pc:Array Value
 gf:FuncId
 gc:Array Value
def Puts (W:World) (x:FnP) (T:ByteArray) (r:Nat):Prop :=
 Enters Tryz.prog x.pf ∧ ∀ w,Wider W w → Calls Tryz.prog x.pf x.pc w fun e w' => e = .returned (.tuple #[.string T,.int .i64 (r:Int)]) ∧ Wider w w'
abbrev Rel (β:Type):=Nat → World → Value → β → Prop
def RelS {β:Type} (R:Rel β):Prop:=∀ B W w u x,WBut [B] W w → R B W u x → R B w u x
def Keeps (b0:Nat) (W w:World):Prop:=W.heap.size ≤ w.heap.size ∧ ∀ i,b0 ≤ i → i < W.heap.size → w.heap[i]? = W.heap[i]?
theorem Keeps.refl (b0:Nat) (W:World):Keeps b0 W W:=⟨Nat.le_refl _,fun i _ _ => rfl⟩
theorem Keeps.trans {b0:Nat} {a b c:World} (h:Keeps b0 a b) (k:Keeps b0 b c):Keeps b0 a c :=
 ⟨Nat.le_trans h.1 k.1,fun i hi hl => (k.2 i hi (Nat.lt_of_lt_of_le hl h.1)).trans (h.2 i hi hl)⟩
theorem Keeps.less {b0 b1:Nat} {W w:World} (h:Keeps b0 W w) (hb:b0 ≤ b1):Keeps b1 W w:=⟨h.1,fun i hi hl => h.2 i (Nat.le_trans hb hi) hl⟩
theorem _root_.Go.Proofs.YtoopdhgmdjienaaGreatDoor.Wider.keeps {W w:World} (g:Wider W w) (b0:Nat):Keeps b0 W w:=⟨g.2,fun i _ hl => wheap g hl⟩
theorem WBut.keeps {B b0:Nat} {W w:World} (g:WBut [B] W w) (h:B < b0):Keeps b0 W w:=⟨g.size,fun i hi hl => g.heap i hl (by simp; omega)⟩
theorem keeps_set {B j b0:Nat} {v:Value} (W:World) (h:B < b0):Keeps b0 W (W.setCell ⟨B,j,none⟩ v):=(setCell_but W ⟨B,j,none⟩ v).keeps h
theorem keep_blk {K b0:Nat} {W w:World} {C:Array Value} {t:TypeId} (h:W.heap[K]? = some (.cells C t (0,0))) (g:Keeps b0 W w) (hb:b0 ≤ K):w.heap[K]? = some (.cells C t (0,0)):=by
 rw [g.2 K hb (Array.getElem?_eq_some_iff.1 h).1]; exact h
def Gets {β:Type} (b0:Nat) (W:World) (x:FnP) (q:Addr) (c:Cod β) (R:Rel β):Prop :=
 Enters Tryz.prog x.gf ∧ ∀ B j,q = ⟨B,j,none⟩ → B < b0 → ∀ w C t,Keeps b0 W w → w.heap[B]? = some (.cells C t (0,0)) → j < C.size → ∀ s:ByteArray,s.size < 1000000 →
  (∀ y,c.dec s = some y → Calls Tryz.prog x.gf (#[.string s] ++ x.gc) w fun e w' => e = .returned (.int .i64 0) ∧ WBut [B] w w' ∧ ∃ u,R B w' u y ∧ w'.heap[B]? = some (.cells (C.setIfInBounds j u) t (0,0))) ∧
  (c.dec s = none → Calls Tryz.prog x.gf (#[.string s] ++ x.gc) w fun e w' => ∃ r:Nat,e = .returned (.int .i64 (r:Int)) ∧ r ≠ 0 ∧ WBut [B] w w')
theorem Puts.on {W w:World} {x:FnP} {T:ByteArray} {r:Nat} (h:Puts W x T r) (g:Wider W w):Puts w x T r:=⟨h.1,fun w2 g2 => h.2 w2 (g.trans g2)⟩
theorem Gets.on {β:Type} {b0 b1:Nat} {W w:World} {x:FnP} {q:Addr} {c:Cod β} {R:Rel β} (h:Gets b1 W x q c R) (g:Keeps b1 W w) (hb:b0 ≤ b1):Gets b0 w x q c R :=
 ⟨h.1,fun B j hq hB w2 C t g2 => h.2 B j hq (Nat.lt_of_lt_of_le hB hb) w2 C t (g.trans (g2.less hb))⟩
theorem but_blk {B K:Nat} {W w:World} {C:Array Value} {t:TypeId} (h:W.heap[K]? = some (.cells C t (0,0))) (g:WBut [B] W w) (hne:K ≠ B):w.heap[K]? = some (.cells C t (0,0)):=by
 have hl:K < W.heap.size:=(Array.getElem?_eq_some_iff.1 h).1
 rw [g.heap K hl (by simpa using hne)]; exact h
theorem wide_blk {K:Nat} {W w:World} {C:Array Value} {t:TypeId} (h:W.heap[K]? = some (.cells C t (0,0))) (g:Wider W w):w.heap[K]? = some (.cells C t (0,0)):=by
 have hl:K < W.heap.size:=(Array.getElem?_eq_some_iff.1 h).1
 rw [wheap g hl]; exact h
theorem set_blk {B j:Nat} {w:World} {C:Array Value} {t:TypeId} (v:Value) (h:w.heap[B]? = some (.cells C t (0,0))):(w.setCell ⟨B,j,none⟩ v).heap[B]? = some (.cells (C.setIfInBounds j v) t (0,0)):=by
 simp only [World.setCell,Array.getElem?_modify,if_true]
 rw [h]; rfl
theorem blk_some {w:World} {B j:Nat} {C:Array Value} {t:TypeId} (h:w.heap[B]? = some (.cells C t (0,0))) (hj:j < C.size):∃ v,w.cell? ⟨B,j,none⟩ = some v :=
 ⟨C[j],blk_cell h j (Array.getElem?_eq_getElem hj)⟩
theorem wrap_u64 (n:Int) (h:0 ≤ n) (h1:n < 18446744073709551616):IntKind.u64.wrap n = n:=by simp [IntKind.wrap,IntKind.bits,IntKind.signed]; omega
theorem wrap_u64_neg (n:Int) (h:n < 0) (h1:-9223372036854775808 ≤ n):IntKind.u64.wrap n = n + 18446744073709551616:=by simp [IntKind.wrap,IntKind.bits,IntKind.signed]; omega
theorem mk_func:∀ (fn:Fn) (first cap:Array Value) (w:World),(Instr.makeFunc fn first cap).run Tryz.prog w = .ok (.func fn first cap) w:=fun _ _ _ _ => rfl
theorem tnum_i (x:Int) (w:World) (h0:0 ≤ x) (h1:x < 18446744073709551616) {T:ByteArray} (hT:mkB (numB x.toNat) = T) :
 Calls Tryz.prog 110 #[.int .u64 x] w fun e w' => e = .returned (.string T) ∧ Wider w w':=by
 obtain ⟨y,rfl⟩ : ∃ y:Nat,x = (y:Int):=⟨x.toNat,by omega⟩
 rw [Int.toNat_natCast] at hT
 exact tnum_a y w (by omega) hT
theorem treadnum_i (s:ByteArray) (top:Nat) (M:Int) (hM:M = (top:Int)) (w:World) (hs:s.size < 1000000) (hm:top < 18446744073709551616) {v r:Nat} (hr:rnumN s.data.toList top = (v,r)) :
 Calls Tryz.prog 122 #[.string s,.int .u64 M] w fun e w' => e = .returned (.tuple #[.int .u64 (v:Int),.int .i64 (r:Int)]) ∧ Wider w w':=by
 subst hM; exact treadnum_a s top w hs hm hr
def relN (k:IntKind):Rel Int:=fun _ _ u x => u = .int k x
end Go.Proofs.YtoopdhgmdjienaaGreatDoor
