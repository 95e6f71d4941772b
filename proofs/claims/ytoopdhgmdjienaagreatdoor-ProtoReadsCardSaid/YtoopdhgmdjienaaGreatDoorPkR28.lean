/- PGet -/
import Derived.Test.YtoopdhgmdjienaaGreatDoorPkR27
namespace Go.Proofs.YtoopdhgmdjienaaGreatDoor
set_option linter.unusedVariables false
set_option maxRecDepth 20000
open Go.ChangeShapes Go.WideShapes Go.ChangeAt Go.RowKit Go.Joins
open Go.ChangeMaps (open_string shut_string)
set_option maxHeartbeats 64000000
theorem wfG64 {v:Int} (h0:0 ≤ v) (h1:v ≤ 9223372036854775807):(Lit.int .i64 v).wf = true:=by
 have e1:IntKind.i64.min = -9223372036854775808:=rfl
 have e2:IntKind.i64.max = 9223372036854775807:=rfl
 simp only [Lit.wf,Bool.and_eq_true,decide_eq_true_eq]
 omega
theorem wfGu64 {v:Int} (h0:0 ≤ v) (h1:v ≤ 18446744073709551615):(Lit.int .u64 v).wf = true:=by
 have e1:IntKind.u64.min = 0:=rfl
 have e2:IntKind.u64.max = 18446744073709551615:=rfl
 simp only [Lit.wf,Bool.and_eq_true,decide_eq_true_eq]
 omega
theorem dec_int {s:ByteArray} {v r:Nat} (h:rnumN s.data.toList 2147483647 = (v,r)):(oneP nI).dec s = if r = 0 then some (.one (.num (v:Int))) else none:=by
 have e:(oneP nI).dec s = (((if (rnumN s.data.toList topI).2 = 0 then some ((rnumN s.data.toList topI).1:Int) else none:Option Int).map ValN.num).map PartN.one):=rfl
 have h2:rnumN s.data.toList topI = (v,r):=h
 rw [e,h2]
 by_cases q:r = 0
 · rw [if_pos q,if_pos q]; rfl
 · rw [if_neg q,if_neg q]; rfl
theorem dec_long {s:ByteArray} {v r:Nat} (h:rnumN s.data.toList 18446744073709551615 = (v,r)):(oneP nU).dec s = if r = 0 then some (.one (.num (v:Int))) else none:=by
 have e:(oneP nU).dec s = (((if (rnumN s.data.toList topU).2 = 0 then some ((rnumN s.data.toList topU).1:Int) else none:Option Int).map ValN.num).map PartN.one):=rfl
 have h2:rnumN s.data.toList topU = (v,r):=h
 rw [e,h2]
 by_cases q:r = 0
 · rw [if_pos q,if_pos q]; rfl
 · rw [if_neg q,if_neg q]; rfl
theorem dec_obj (most i:Nat) (s:ByteArray) {vs:List ValN} {r:Nat} (h:decG (csKind i) s.data.toList = (vs,r)):(partC most (i + 9)).dec s = if r = 0 then some (.obj vs) else none:=by
 have e:(partC most (i + 9)).dec s = if (decG (csKind i) s.data.toList).2 = 0 then some (.obj (decG (csKind i) s.data.toList).1) else none:=rfl
 rw [e,h]
def RowGot (w0 w':World) (k o j i:Nat) (M M':Array Value):Prop:=if i = k then (∃ A n c,M'[o]? = some (.slice A n c) ∧ n < 1000000 ∧ RoomB w0.heap.size w' A (n * j)) else M'[o]? = M[o]?
abbrev RowsGot (w0 w':World) (i:Nat) (M M':Array Value):Prop:=RowGot w0 w' 8 10 1 i M M' ∧ RowGot w0 w' 9 18 2 i M M' ∧ RowGot w0 w' 13 42 7 i M M'
theorem rowGot_no {w0 w':World} {k o j i:Nat} {M M':Array Value} (h:i ≠ k) (e:M'[o]? = M[o]?):RowGot w0 w' k o j i M M':=by unfold RowGot; rw [if_neg h]; exact e
theorem rowGot_yes {w0 w':World} {o j i:Nat} {M M':Array Value} (e:∃ A n c,M'[o]? = some (.slice A n c) ∧ n < 1000000 ∧ RoomB w0.heap.size w' A (n * j)):RowGot w0 w' i o j i M M':=by unfold RowGot; rw [if_pos rfl]; exact e
theorem keepS {M:Array Value} {c o:Nat} {v:Value} (h:c ≠ o):(M.setIfInBounds c v)[o]? = M[o]? :=Array.getElem?_setIfInBounds_ne h
theorem keepP {M:Array Value} {o k:Nat} {c:Array Value} (h:o + c.size ≤ M.size) (hk:k < o ∨ o + c.size ≤ k):(setPart M o c)[k]? = M[k]? :=by rw [setPart_get h,if_neg (by omega)]
theorem rowP {b0 j N off k o:Nat} {w':World} {M c:Array Value} (hM:M.size = 52) (sc:c.size = N) (h:off + N ≤ 52) (ho:o = off + k) (hk:k < N) (e:∃ A n cap,c[k]? = some (.slice A n cap) ∧ n < 1000000 ∧ RoomB b0 w' A (n * j)):∃ A n cap,(setPart M off c)[o]? = some (.slice A n cap) ∧ n < 1000000 ∧ RoomB b0 w' A (n * j):=by
 obtain ⟨A,n,cap,e,h1,h2⟩:=e
 exact ⟨A,n,cap,by rw [setPart_get (by omega),if_pos (by omega),ho,Nat.add_sub_cancel_left,e],h1,h2⟩
theorem gotS {w0 w':World} {M:Array Value} {i c:Nat} {v:Value} (h8:i ≠ 8) (h9:i ≠ 9) (h13:i ≠ 13) (a:c ≠ 10) (b:c ≠ 18) (d:c ≠ 42):RowsGot w0 w' i M (M.setIfInBounds c v):=⟨rowGot_no h8 (keepS a),rowGot_no h9 (keepS b),rowGot_no h13 (keepS d)⟩
def GotAt (B b0:Nat) (w0 w':World) (M:Array Value) (d:MsgD) (i:Nat) (s:ByteArray) (r:Nat):Prop :=
 WBut [B] w0 w' ∧ ((∃ p M',(partC 65535 i).dec s = some p ∧ r = 0 ∧ w'.heap[B]? = some (.cells M' 51 (0,0)) ∧ RepK b0 w' M' (d.setN i p) ∧ RowsGot w0 w' i M M') ∨ ((partC 65535 i).dec s = none ∧ r ≠ 0))
theorem pget_1 {w:World} {B b0:Nat} {M:Array Value} {d:MsgD} (hB:w.heap[B]? = some (.cells M 51 (0,0))) (hb:B < b0) (hz:b0 ≤ w.heap.size) (R:RepK b0 w M d) (s:ByteArray) (hs:s.size ≤ 65535) :
 Calls Tryz.prog 40 #[.pointer (some ⟨B,0,none⟩),.int .u8 1,.string s] w fun e w' => ∃ r:Nat,e = .returned (.int .i64 (r:Int)) ∧ GotAt B b0 w w' M d 0 s r:=by
 obtain ⟨v,r,hr⟩ : ∃ v r,rnumN s.data.toList 2147483647 = (v,r):=⟨_,_,rfl⟩
 have zi:=getInt_c w s (by omega) hr
 have hv:=rnum_le hr
 have hd:=dec_int hr
 have RW:=Lib.hid R
 have c0:=fun (w1:World) (h:w1.heap[B]? = some (.cells M 51 (0,0))) => blk_cell h 2 R.here.c2
 have HD:=Lib.hid hd
 have HV:=Lib.hid hv
 have HB:=Lib.hid hB
 clear hr hd hv R hB
 go_enter Tryz.func40,Tryz.ntmps40
 go_wp2_with (first
  | (go_at_call 80; (with_reducible refine zi.mono ?_); rintro e w1 ⟨rfl,g1⟩; have h1:=wide_blk HB.out g1; have q1:=c0 w1 h1; have f1:=blk_free h1 2)
  | (with_reducible refine wpList_field rfl 51 (.tmp 16) 2 rfl B 0 2 rfl (fieldM2 _) ?_))
 go_ret
 have h2:=set_blk (j:=2) (.int .i64 (v:Int)) h1
 have b2:=g1.but [B] |>.trans (setCell_but w1 ⟨B,2,none⟩ (.int .i64 (v:Int))) (fun j m => .inl m)
 refine ⟨r,rfl,b2,?_⟩
 by_cases q:r = 0
 · refine .inl ⟨.one (.num (v:Int)),_,?_,q,h2,fun W k => RepD.set0 (RW.out W ((b2.keeps hb).trans k)) (v:Int) (wfG64 (by omega) (by have:=HV.out; omega)),gotS (by decide) (by decide) (by decide) (by decide) (by decide) (by decide)⟩
   have:=HD.out; rw [if_pos q] at this; exact this
 · refine .inr ⟨?_,q⟩
   have:=HD.out; rw [if_neg q] at this; exact this
theorem pget_2 {w:World} {B b0:Nat} {M:Array Value} {d:MsgD} (hB:w.heap[B]? = some (.cells M 51 (0,0))) (hb:B < b0) (hz:b0 ≤ w.heap.size) (R:RepK b0 w M d) (s:ByteArray) (hs:s.size ≤ 65535) :
 Calls Tryz.prog 40 #[.pointer (some ⟨B,0,none⟩),.int .u8 2,.string s] w fun e w' => ∃ r:Nat,e = .returned (.int .i64 (r:Int)) ∧ GotAt B b0 w w' M d 1 s r:=by
 obtain ⟨v,r,hr⟩ : ∃ v r,rnumN s.data.toList 2147483647 = (v,r):=⟨_,_,rfl⟩
 have zi:=getInt_c w s (by omega) hr
 have hv:=rnum_le hr
 have hd:=dec_int hr
 have RW:=Lib.hid R
 have c0:=fun (w1:World) (h:w1.heap[B]? = some (.cells M 51 (0,0))) => blk_cell h 3 R.here.c3
 have HD:=Lib.hid hd
 have HV:=Lib.hid hv
 have HB:=Lib.hid hB
 clear hr hd hv R hB
 go_enter Tryz.func40,Tryz.ntmps40
 go_wp2_with (first
  | (go_at_call 80; (with_reducible refine zi.mono ?_); rintro e w1 ⟨rfl,g1⟩; have h1:=wide_blk HB.out g1; have q1:=c0 w1 h1; have f1:=blk_free h1 3)
  | (with_reducible refine wpList_field rfl 51 (.tmp 26) 3 rfl B 0 3 rfl (fieldM3 _) ?_))
 go_ret
 have h2:=set_blk (j:=3) (.int .i64 (v:Int)) h1
 have b2:=g1.but [B] |>.trans (setCell_but w1 ⟨B,3,none⟩ (.int .i64 (v:Int))) (fun j m => .inl m)
 refine ⟨r,rfl,b2,?_⟩
 by_cases q:r = 0
 · refine .inl ⟨.one (.num (v:Int)),_,?_,q,h2,fun W k => RepD.set1 (RW.out W ((b2.keeps hb).trans k)) (v:Int) (wfG64 (by omega) (by have:=HV.out; omega)),gotS (by decide) (by decide) (by decide) (by decide) (by decide) (by decide)⟩
   have:=HD.out; rw [if_pos q] at this; exact this
 · refine .inr ⟨?_,q⟩
   have:=HD.out; rw [if_neg q] at this; exact this
theorem pget_3 {w:World} {B b0:Nat} {M:Array Value} {d:MsgD} (hB:w.heap[B]? = some (.cells M 51 (0,0))) (hb:B < b0) (hz:b0 ≤ w.heap.size) (R:RepK b0 w M d) (s:ByteArray) (hs:s.size ≤ 65535) :
 Calls Tryz.prog 40 #[.pointer (some ⟨B,0,none⟩),.int .u8 3,.string s] w fun e w' => ∃ r:Nat,e = .returned (.int .i64 (r:Int)) ∧ GotAt B b0 w w' M d 2 s r:=by
 obtain ⟨v,r,hr⟩ : ∃ v r,rnumN s.data.toList 2147483647 = (v,r):=⟨_,_,rfl⟩
 have zi:=getInt_c w s (by omega) hr
 have hv:=rnum_le hr
 have hd:=dec_int hr
 have RW:=Lib.hid R
 have c0:=fun (w1:World) (h:w1.heap[B]? = some (.cells M 51 (0,0))) => blk_cell h 4 R.here.c4
 have HD:=Lib.hid hd
 have HV:=Lib.hid hv
 have HB:=Lib.hid hB
 clear hr hd hv R hB
 go_enter Tryz.func40,Tryz.ntmps40
 go_wp2_with (first
  | (go_at_call 80; (with_reducible refine zi.mono ?_); rintro e w1 ⟨rfl,g1⟩; have h1:=wide_blk HB.out g1; have q1:=c0 w1 h1; have f1:=blk_free h1 4)
  | (with_reducible refine wpList_field rfl 51 (.tmp 36) 4 rfl B 0 4 rfl (fieldM4 _) ?_))
 go_ret
 have h2:=set_blk (j:=4) (.int .i64 (v:Int)) h1
 have b2:=g1.but [B] |>.trans (setCell_but w1 ⟨B,4,none⟩ (.int .i64 (v:Int))) (fun j m => .inl m)
 refine ⟨r,rfl,b2,?_⟩
 by_cases q:r = 0
 · refine .inl ⟨.one (.num (v:Int)),_,?_,q,h2,fun W k => RepD.set2 (RW.out W ((b2.keeps hb).trans k)) (v:Int) (wfG64 (by omega) (by have:=HV.out; omega)),gotS (by decide) (by decide) (by decide) (by decide) (by decide) (by decide)⟩
   have:=HD.out; rw [if_pos q] at this; exact this
 · refine .inr ⟨?_,q⟩
   have:=HD.out; rw [if_neg q] at this; exact this
theorem pget_4 {w:World} {B b0:Nat} {M:Array Value} {d:MsgD} (hB:w.heap[B]? = some (.cells M 51 (0,0))) (hb:B < b0) (hz:b0 ≤ w.heap.size) (R:RepK b0 w M d) (s:ByteArray) (hs:s.size ≤ 65535) :
 Calls Tryz.prog 40 #[.pointer (some ⟨B,0,none⟩),.int .u8 4,.string s] w fun e w' => ∃ r:Nat,e = .returned (.int .i64 (r:Int)) ∧ GotAt B b0 w w' M d 3 s r:=by
 obtain ⟨v,r,hr⟩ : ∃ v r,rnumN s.data.toList 2147483647 = (v,r):=⟨_,_,rfl⟩
 have zi:=getInt_c w s (by omega) hr
 have hv:=rnum_le hr
 have hd:=dec_int hr
 have RW:=Lib.hid R
 have c0:=fun (w1:World) (h:w1.heap[B]? = some (.cells M 51 (0,0))) => blk_cell h 5 R.here.c5
 have HD:=Lib.hid hd
 have HV:=Lib.hid hv
 have HB:=Lib.hid hB
 clear hr hd hv R hB
 go_enter Tryz.func40,Tryz.ntmps40
 go_wp2_with (first
  | (go_at_call 80; (with_reducible refine zi.mono ?_); rintro e w1 ⟨rfl,g1⟩; have h1:=wide_blk HB.out g1; have q1:=c0 w1 h1; have f1:=blk_free h1 5)
  | (with_reducible refine wpList_field rfl 51 (.tmp 46) 5 rfl B 0 5 rfl (fieldM5 _) ?_))
 go_ret
 have h2:=set_blk (j:=5) (.int .i64 (v:Int)) h1
 have b2:=g1.but [B] |>.trans (setCell_but w1 ⟨B,5,none⟩ (.int .i64 (v:Int))) (fun j m => .inl m)
 refine ⟨r,rfl,b2,?_⟩
 by_cases q:r = 0
 · refine .inl ⟨.one (.num (v:Int)),_,?_,q,h2,fun W k => RepD.set3 (RW.out W ((b2.keeps hb).trans k)) (v:Int) (wfG64 (by omega) (by have:=HV.out; omega)),gotS (by decide) (by decide) (by decide) (by decide) (by decide) (by decide)⟩
   have:=HD.out; rw [if_pos q] at this; exact this
 · refine .inr ⟨?_,q⟩
   have:=HD.out; rw [if_neg q] at this; exact this
theorem pget_5 {w:World} {B b0:Nat} {M:Array Value} {d:MsgD} (hB:w.heap[B]? = some (.cells M 51 (0,0))) (hb:B < b0) (hz:b0 ≤ w.heap.size) (R:RepK b0 w M d) (s:ByteArray) (hs:s.size ≤ 65535) :
 Calls Tryz.prog 40 #[.pointer (some ⟨B,0,none⟩),.int .u8 5,.string s] w fun e w' => ∃ r:Nat,e = .returned (.int .i64 (r:Int)) ∧ GotAt B b0 w w' M d 4 s r:=by
 obtain ⟨v,r,hr⟩ : ∃ v r,rnumN s.data.toList 2147483647 = (v,r):=⟨_,_,rfl⟩
 have zi:=getInt_c w s (by omega) hr
 have hv:=rnum_le hr
 have hd:=dec_int hr
 have RW:=Lib.hid R
 have c0:=fun (w1:World) (h:w1.heap[B]? = some (.cells M 51 (0,0))) => blk_cell h 6 R.here.c6
 have HD:=Lib.hid hd
 have HV:=Lib.hid hv
 have HB:=Lib.hid hB
 clear hr hd hv R hB
 go_enter Tryz.func40,Tryz.ntmps40
 go_wp2_with (first
  | (go_at_call 80; (with_reducible refine zi.mono ?_); rintro e w1 ⟨rfl,g1⟩; have h1:=wide_blk HB.out g1; have q1:=c0 w1 h1; have f1:=blk_free h1 6)
  | (with_reducible refine wpList_field rfl 51 (.tmp 56) 6 rfl B 0 6 rfl (fieldM6 _) ?_))
 go_ret
 have h2:=set_blk (j:=6) (.int .i64 (v:Int)) h1
 have b2:=g1.but [B] |>.trans (setCell_but w1 ⟨B,6,none⟩ (.int .i64 (v:Int))) (fun j m => .inl m)
 refine ⟨r,rfl,b2,?_⟩
 by_cases q:r = 0
 · refine .inl ⟨.one (.num (v:Int)),_,?_,q,h2,fun W k => RepD.set4 (RW.out W ((b2.keeps hb).trans k)) (v:Int) (wfG64 (by omega) (by have:=HV.out; omega)),gotS (by decide) (by decide) (by decide) (by decide) (by decide) (by decide)⟩
   have:=HD.out; rw [if_pos q] at this; exact this
 · refine .inr ⟨?_,q⟩
   have:=HD.out; rw [if_neg q] at this; exact this
theorem pget_6 {w:World} {B b0:Nat} {M:Array Value} {d:MsgD} (hB:w.heap[B]? = some (.cells M 51 (0,0))) (hb:B < b0) (hz:b0 ≤ w.heap.size) (R:RepK b0 w M d) (s:ByteArray) (hs:s.size ≤ 65535) :
 Calls Tryz.prog 40 #[.pointer (some ⟨B,0,none⟩),.int .u8 6,.string s] w fun e w' => ∃ r:Nat,e = .returned (.int .i64 (r:Int)) ∧ GotAt B b0 w w' M d 5 s r:=by
 obtain ⟨v,r,hr⟩ : ∃ v r,rnumN s.data.toList 18446744073709551615 = (v,r):=⟨_,_,rfl⟩
 have zi:=getLong_c w s (by omega) hr
 have hv:=rnum_le hr
 have hd:=dec_long hr
 have RW:=Lib.hid R
 have c0:=fun (w1:World) (h:w1.heap[B]? = some (.cells M 51 (0,0))) => blk_cell h 7 R.here.c7
 have HD:=Lib.hid hd
 have HV:=Lib.hid hv
 have HB:=Lib.hid hB
 clear hr hd hv R hB
 go_enter Tryz.func40,Tryz.ntmps40
 go_wp2_with (first
  | (go_at_call 81; (with_reducible refine zi.mono ?_); rintro e w1 ⟨rfl,g1⟩; have h1:=wide_blk HB.out g1; have q1:=c0 w1 h1; have f1:=blk_free h1 7)
  | (with_reducible refine wpList_field rfl 51 (.tmp 66) 7 rfl B 0 7 rfl (fieldM7 _) ?_))
 go_ret
 have h2:=set_blk (j:=7) (.int .u64 (v:Int)) h1
 have b2:=g1.but [B] |>.trans (setCell_but w1 ⟨B,7,none⟩ (.int .u64 (v:Int))) (fun j m => .inl m)
 refine ⟨r,rfl,b2,?_⟩
 by_cases q:r = 0
 · refine .inl ⟨.one (.num (v:Int)),_,?_,q,h2,fun W k => RepD.set5 (RW.out W ((b2.keeps hb).trans k)) (v:Int) (wfGu64 (by omega) (by have:=HV.out; omega)),gotS (by decide) (by decide) (by decide) (by decide) (by decide) (by decide)⟩
   have:=HD.out; rw [if_pos q] at this; exact this
 · refine .inr ⟨?_,q⟩
   have:=HD.out; rw [if_neg q] at this; exact this
theorem pget_7 {w:World} {B b0:Nat} {M:Array Value} {d:MsgD} (hB:w.heap[B]? = some (.cells M 51 (0,0))) (hb:B < b0) (hz:b0 ≤ w.heap.size) (R:RepK b0 w M d) (s:ByteArray) (hs:s.size ≤ 65535) :
 Calls Tryz.prog 40 #[.pointer (some ⟨B,0,none⟩),.int .u8 7,.string s] w fun e w' => ∃ r:Nat,e = .returned (.int .i64 (r:Int)) ∧ GotAt B b0 w w' M d 6 s r:=by
 obtain ⟨v,r,hr⟩ : ∃ v r,rnumN s.data.toList 18446744073709551615 = (v,r):=⟨_,_,rfl⟩
 have zi:=getLong_c w s (by omega) hr
 have hv:=rnum_le hr
 have hd:=dec_long hr
 have RW:=Lib.hid R
 have c0:=fun (w1:World) (h:w1.heap[B]? = some (.cells M 51 (0,0))) => blk_cell h 8 R.here.c8
 have HD:=Lib.hid hd
 have HV:=Lib.hid hv
 have HB:=Lib.hid hB
 clear hr hd hv R hB
 go_enter Tryz.func40,Tryz.ntmps40
 go_wp2_with (first
  | (go_at_call 81; (with_reducible refine zi.mono ?_); rintro e w1 ⟨rfl,g1⟩; have h1:=wide_blk HB.out g1; have q1:=c0 w1 h1; have f1:=blk_free h1 8)
  | (with_reducible refine wpList_field rfl 51 (.tmp 76) 8 rfl B 0 8 rfl (fieldM8 _) ?_))
 go_ret
 have h2:=set_blk (j:=8) (.int .u64 (v:Int)) h1
 have b2:=g1.but [B] |>.trans (setCell_but w1 ⟨B,8,none⟩ (.int .u64 (v:Int))) (fun j m => .inl m)
 refine ⟨r,rfl,b2,?_⟩
 by_cases q:r = 0
 · refine .inl ⟨.one (.num (v:Int)),_,?_,q,h2,fun W k => RepD.set6 (RW.out W ((b2.keeps hb).trans k)) (v:Int) (wfGu64 (by omega) (by have:=HV.out; omega)),gotS (by decide) (by decide) (by decide) (by decide) (by decide) (by decide)⟩
   have:=HD.out; rw [if_pos q] at this; exact this
 · refine .inr ⟨?_,q⟩
   have:=HD.out; rw [if_neg q] at this; exact this
theorem pget_8 {w:World} {B b0:Nat} {M:Array Value} {d:MsgD} (hB:w.heap[B]? = some (.cells M 51 (0,0))) (hb:B < b0) (hz:b0 ≤ w.heap.size) (R:RepK b0 w M d) (s:ByteArray) (hs:s.size ≤ 65535) :
 Calls Tryz.prog 40 #[.pointer (some ⟨B,0,none⟩),.int .u8 8,.string s] w fun e w' => ∃ r:Nat,e = .returned (.int .i64 (r:Int)) ∧ GotAt B b0 w w' M d 7 s r:=by
 have c0:=blk_cell hB 9 R.here.c9
 have f0:=blk_free hB 9
 have HB:=Lib.hid hB
 have RW:=Lib.hid R
 have HS:=Lib.hid hs
 clear hB R hs
 go_enter Tryz.func40,Tryz.ntmps40
 go_wp2_with (first
  | (with_reducible refine wpList_field rfl 51 (.tmp 82) 9 rfl B 0 9 rfl (fieldM9 _) ?_))
 go_ret
 have h2:=set_blk (j:=9) (.string s) HB.out
 have b2:=setCell_but w ⟨B,9,none⟩ (.string s)
 have hs2:=HS.out
 refine ⟨0,rfl,b2,.inl ⟨.one (.txt s),_,?_,rfl,h2,fun W k => RepD.set7 (RW.out W ((b2.keeps hb).trans k)) s (by unfold maxLen; omega),gotS (by decide) (by decide) (by decide) (by decide) (by decide) (by decide)⟩⟩
 show ((if s.size ≤ 65535 then some (ValN.txt s) else none:Option ValN).map PartN.one) = _
 rw [if_pos hs2]; rfl
theorem pget_9 {w:World} {B b0:Nat} {M:Array Value} {d:MsgD} (hB:w.heap[B]? = some (.cells M 51 (0,0))) (hb:B < b0) (hz:b0 ≤ w.heap.size) (R:RepK b0 w M d) (s:ByteArray) (hs:s.size ≤ 65535) :
 Calls Tryz.prog 40 #[.pointer (some ⟨B,0,none⟩),.int .u8 9,.string s] w fun e w' => ∃ r:Nat,e = .returned (.int .i64 (r:Int)) ∧ GotAt B b0 w w' M d 8 s r:=by
 have zw:=getWords_c s w (by omega)
 have RW:=Lib.hid R
 obtain ⟨v0,A0,n0,p0,e0,r0⟩:=R.here.c10
 have c0:=fun (w1:World) (h:w1.heap[B]? = some (.cells M 51 (0,0))) => blk_cell h 10 e0
 have HB:=Lib.hid hB
 clear R hB e0 r0
 go_enter Tryz.func40,Tryz.ntmps40
 go_wp2_with (first
  | (go_at_call 82; (with_reducible refine zw.mono ?_); rintro e w1 ⟨v,r,rfl,g1,⟨A9,n9,p9,rfl⟩,hw⟩; have HW:=Lib.hid hw; clear hw; have h1:=wide_blk HB.out g1; have q1:=c0 w1 h1; have f1:=blk_free h1 10)
  | (with_reducible refine wpList_field rfl 51 (.tmp 92) 10 rfl B 0 10 rfl (fieldM10 _) ?_))
 go_ret
 have h2:=set_blk (j:=10) (.slice A9 n9 p9) h1
 have b2:=g1.but [B] |>.trans (setCell_but w1 ⟨B,10,none⟩ (.slice A9 n9 p9)) (fun j m => .inl m)
 refine ⟨r,rfl,b2,?_⟩
 rcases HW.out with ⟨L,hd,q,hL,hRm⟩ | ⟨hd,q⟩
 · refine .inl ⟨.one (.lst L),_,?_,q,h2,fun W k => ?_,rowGot_yes ?_,rowGot_no (by decide) (keepS (by decide)),rowGot_no (by decide) (keepS (by decide))⟩
   · show (lWords.dec s).map PartN.one = _
     rw [hd]; rfl
   · obtain ⟨A,n,cap,hl⟩:=hL W (((setCell_but w1 ⟨B,10,none⟩ (.slice A9 n9 p9)).keeps (Nat.lt_of_lt_of_le hb hz)).trans (k.less hz))
     exact RepD.set8 (RW.out W ((b2.keeps hb).trans k)) hl
   · obtain ⟨A,n,cap,e,n9',rm⟩:=hRm _ ((setCell_but w1 ⟨B,10,none⟩ (.slice A9 n9 p9)).keeps (Nat.lt_of_lt_of_le hb hz))
     have sM:=RW.out.here.size
     exact ⟨A,n,cap,by rw [Array.getElem?_setIfInBounds,if_pos rfl,if_pos (by omega),e],n9',rm⟩
 · exact .inr ⟨by show (lWords.dec s).map PartN.one = _; rw [hd]; rfl,q⟩
theorem pget_10 {w:World} {B b0:Nat} {M:Array Value} {d:MsgD} (hB:w.heap[B]? = some (.cells M 51 (0,0))) (hb:B < b0) (hz:b0 ≤ w.heap.size) (R:RepK b0 w M d) (s:ByteArray) (hs:s.size ≤ 65535) :
 Calls Tryz.prog 40 #[.pointer (some ⟨B,0,none⟩),.int .u8 10,.string s] w fun e w' => ∃ r:Nat,e = .returned (.int .i64 (r:Int)) ∧ GotAt B b0 w w' M d 9 s r:=by
 obtain ⟨vs,r,hr⟩ : ∃ vs r,decG csNode s.data.toList = (vs,r):=⟨_,_,rfl⟩
 have zi:=repNode_rm s w (by omega) hr
 have hd:=dec_obj 65535 0 s (vs:=vs) (r:=r) hr
 have RW:=Lib.hid R
 have sM:=R.here.size
 have HB:=Lib.hid hB
 have HD:=Lib.hid hd
 clear hr hd R hB
 go_enter Tryz.func40,Tryz.ntmps40
 go_wp2_with (first
  | (go_at_call 83; (with_reducible refine zi.mono ?_); rintro e w1 ⟨c,rfl,g1,hR⟩; have HR:=Lib.hid hR; clear hR; have h1:=wide_blk HB.out g1; have sc:=(HR.out _ (Keeps.refl _ _)).1.size; have oc:=(HR.out _ (Keeps.refl _ _)).1.one)
  | (with_reducible refine wpList_field rfl 51 (.tmp 102) 11 rfl B 0 11 rfl (fieldM11 _) ?_)
  | (with_reducible refine wpList_store_part rfl 32 (.tmp 103) (.tmp 100) rfl B 11 c rfl rfl 51 M h1 (by rw [sc]; kernel_rfl) (by rw [sc,sM]; decide) oc (new:=setPart M 11 c) rfl ?_))
 go_ret
 obtain ⟨g2,h2⟩:=setRow_facts (setPart M 11 c) h1
 have b2:=g1.but [B] |>.trans g2 (fun j m => .inl m)
 refine ⟨r,rfl,b2,?_⟩
 have hM52:=RW.out.here.size
 by_cases q:r = 0
 · refine .inl ⟨.obj vs,_,?_,q,h2,fun W k => RepD.set9 (RW.out W ((b2.keeps hb).trans k)) (HR.out W ((g2.keeps (Nat.lt_of_lt_of_le hb hz)).trans (k.less hz))).1,⟨rowGot_no (by decide) (keepP (by rw [sc,hM52]; decide) (by rw [sc]; decide)),rowGot_yes (rowP (off:=11) (k:=7) (N:=9) hM52 sc (by decide) rfl (by decide) (HR.out _ (g2.keeps (Nat.lt_of_lt_of_le hb hz))).2),rowGot_no (by decide) (keepP (by rw [sc,hM52]; decide) (by rw [sc]; decide))⟩⟩
   have:=HD.out; rw [if_pos q] at this; exact this
 · refine .inr ⟨?_,q⟩
   have:=HD.out; rw [if_neg q] at this; exact this
theorem pget_11 {w:World} {B b0:Nat} {M:Array Value} {d:MsgD} (hB:w.heap[B]? = some (.cells M 51 (0,0))) (hb:B < b0) (hz:b0 ≤ w.heap.size) (R:RepK b0 w M d) (s:ByteArray) (hs:s.size ≤ 65535) :
 Calls Tryz.prog 40 #[.pointer (some ⟨B,0,none⟩),.int .u8 11,.string s] w fun e w' => ∃ r:Nat,e = .returned (.int .i64 (r:Int)) ∧ GotAt B b0 w w' M d 10 s r:=by
 obtain ⟨vs,r,hr⟩ : ∃ vs r,decG csField s.data.toList = (vs,r):=⟨_,_,rfl⟩
 have zi:=repField_read s w (by omega) hr
 have hd:=dec_obj 65535 1 s (vs:=vs) (r:=r) hr
 have RW:=Lib.hid R
 have sM:=R.here.size
 have HB:=Lib.hid hB
 have HD:=Lib.hid hd
 clear hr hd R hB
 go_enter Tryz.func40,Tryz.ntmps40
 go_wp2_with (first
  | (go_at_call 84; (with_reducible refine zi.mono ?_); rintro e w1 ⟨c,rfl,g1,hR⟩; have HR:=Lib.hid hR; clear hR; have h1:=wide_blk HB.out g1; have sc:=(HR.out _ (Keeps.refl _ _)).size; have oc:=(HR.out _ (Keeps.refl _ _)).one)
  | (with_reducible refine wpList_field rfl 51 (.tmp 112) 12 rfl B 0 20 rfl (fieldM12 _) ?_)
  | (with_reducible refine wpList_store_part rfl 34 (.tmp 113) (.tmp 110) rfl B 20 c rfl rfl 51 M h1 (by rw [sc]; kernel_rfl) (by rw [sc,sM]; decide) oc (new:=setPart M 20 c) rfl ?_))
 go_ret
 obtain ⟨g2,h2⟩:=setRow_facts (setPart M 20 c) h1
 have b2:=g1.but [B] |>.trans g2 (fun j m => .inl m)
 refine ⟨r,rfl,b2,?_⟩
 have hM52:=RW.out.here.size
 by_cases q:r = 0
 · refine .inl ⟨.obj vs,_,?_,q,h2,fun W k => RepD.set10 (RW.out W ((b2.keeps hb).trans k)) (HR.out W ((g2.keeps (Nat.lt_of_lt_of_le hb hz)).trans (k.less hz))),⟨rowGot_no (by decide) (keepP (by rw [sc,hM52]; decide) (by rw [sc]; decide)),rowGot_no (by decide) (keepP (by rw [sc,hM52]; decide) (by rw [sc]; decide)),rowGot_no (by decide) (keepP (by rw [sc,hM52]; decide) (by rw [sc]; decide))⟩⟩
   have:=HD.out; rw [if_pos q] at this; exact this
 · refine .inr ⟨?_,q⟩
   have:=HD.out; rw [if_neg q] at this; exact this
theorem pget_12 {w:World} {B b0:Nat} {M:Array Value} {d:MsgD} (hB:w.heap[B]? = some (.cells M 51 (0,0))) (hb:B < b0) (hz:b0 ≤ w.heap.size) (R:RepK b0 w M d) (s:ByteArray) (hs:s.size ≤ 65535) :
 Calls Tryz.prog 40 #[.pointer (some ⟨B,0,none⟩),.int .u8 12,.string s] w fun e w' => ∃ r:Nat,e = .returned (.int .i64 (r:Int)) ∧ GotAt B b0 w w' M d 11 s r:=by
 obtain ⟨vs,r,hr⟩ : ∃ vs r,decG csTable s.data.toList = (vs,r):=⟨_,_,rfl⟩
 have zi:=repTable_read s w (by omega) hr
 have hd:=dec_obj 65535 2 s (vs:=vs) (r:=r) hr
 have RW:=Lib.hid R
 have sM:=R.here.size
 have HB:=Lib.hid hB
 have HD:=Lib.hid hd
 clear hr hd R hB
 go_enter Tryz.func40,Tryz.ntmps40
 go_wp2_with (first
  | (go_at_call 85; (with_reducible refine zi.mono ?_); rintro e w1 ⟨c,rfl,g1,hR⟩; have HR:=Lib.hid hR; clear hR; have h1:=wide_blk HB.out g1; have sc:=(HR.out _ (Keeps.refl _ _)).size; have oc:=(HR.out _ (Keeps.refl _ _)).one)
  | (with_reducible refine wpList_field rfl 51 (.tmp 122) 13 rfl B 0 25 rfl (fieldM13 _) ?_)
  | (with_reducible refine wpList_store_part rfl 37 (.tmp 123) (.tmp 120) rfl B 25 c rfl rfl 51 M h1 (by rw [sc]; kernel_rfl) (by rw [sc,sM]; decide) oc (new:=setPart M 25 c) rfl ?_))
 go_ret
 obtain ⟨g2,h2⟩:=setRow_facts (setPart M 25 c) h1
 have b2:=g1.but [B] |>.trans g2 (fun j m => .inl m)
 refine ⟨r,rfl,b2,?_⟩
 have hM52:=RW.out.here.size
 by_cases q:r = 0
 · refine .inl ⟨.obj vs,_,?_,q,h2,fun W k => RepD.set11 (RW.out W ((b2.keeps hb).trans k)) (HR.out W ((g2.keeps (Nat.lt_of_lt_of_le hb hz)).trans (k.less hz))),⟨rowGot_no (by decide) (keepP (by rw [sc,hM52]; decide) (by rw [sc]; decide)),rowGot_no (by decide) (keepP (by rw [sc,hM52]; decide) (by rw [sc]; decide)),rowGot_no (by decide) (keepP (by rw [sc,hM52]; decide) (by rw [sc]; decide))⟩⟩
   have:=HD.out; rw [if_pos q] at this; exact this
 · refine .inr ⟨?_,q⟩
   have:=HD.out; rw [if_neg q] at this; exact this
theorem pget_13 {w:World} {B b0:Nat} {M:Array Value} {d:MsgD} (hB:w.heap[B]? = some (.cells M 51 (0,0))) (hb:B < b0) (hz:b0 ≤ w.heap.size) (R:RepK b0 w M d) (s:ByteArray) (hs:s.size ≤ 65535) :
 Calls Tryz.prog 40 #[.pointer (some ⟨B,0,none⟩),.int .u8 13,.string s] w fun e w' => ∃ r:Nat,e = .returned (.int .i64 (r:Int)) ∧ GotAt B b0 w w' M d 12 s r:=by
 obtain ⟨vs,r,hr⟩ : ∃ vs r,decG csEntry s.data.toList = (vs,r):=⟨_,_,rfl⟩
 have zi:=repEntry_read s w (by omega) hr
 have hd:=dec_obj 65535 3 s (vs:=vs) (r:=r) hr
 have RW:=Lib.hid R
 have sM:=R.here.size
 have HB:=Lib.hid hB
 have HD:=Lib.hid hd
 clear hr hd R hB
 go_enter Tryz.func40,Tryz.ntmps40
 go_wp2_with (first
  | (go_at_call 86; (with_reducible refine zi.mono ?_); rintro e w1 ⟨c,rfl,g1,hR⟩; have HR:=Lib.hid hR; clear hR; have h1:=wide_blk HB.out g1; have sc:=(HR.out _ (Keeps.refl _ _)).size; have oc:=(HR.out _ (Keeps.refl _ _)).one)
  | (with_reducible refine wpList_field rfl 51 (.tmp 132) 14 rfl B 0 30 rfl (fieldM14 _) ?_)
  | (with_reducible refine wpList_store_part rfl 39 (.tmp 133) (.tmp 130) rfl B 30 c rfl rfl 51 M h1 (by rw [sc]; kernel_rfl) (by rw [sc,sM]; decide) oc (new:=setPart M 30 c) rfl ?_))
 go_ret
 obtain ⟨g2,h2⟩:=setRow_facts (setPart M 30 c) h1
 have b2:=g1.but [B] |>.trans g2 (fun j m => .inl m)
 refine ⟨r,rfl,b2,?_⟩
 have hM52:=RW.out.here.size
 by_cases q:r = 0
 · refine .inl ⟨.obj vs,_,?_,q,h2,fun W k => RepD.set12 (RW.out W ((b2.keeps hb).trans k)) (HR.out W ((g2.keeps (Nat.lt_of_lt_of_le hb hz)).trans (k.less hz))),⟨rowGot_no (by decide) (keepP (by rw [sc,hM52]; decide) (by rw [sc]; decide)),rowGot_no (by decide) (keepP (by rw [sc,hM52]; decide) (by rw [sc]; decide)),rowGot_no (by decide) (keepP (by rw [sc,hM52]; decide) (by rw [sc]; decide))⟩⟩
   have:=HD.out; rw [if_pos q] at this; exact this
 · refine .inr ⟨?_,q⟩
   have:=HD.out; rw [if_neg q] at this; exact this
theorem pget_14 {w:World} {B b0:Nat} {M:Array Value} {d:MsgD} (hB:w.heap[B]? = some (.cells M 51 (0,0))) (hb:B < b0) (hz:b0 ≤ w.heap.size) (R:RepK b0 w M d) (s:ByteArray) (hs:s.size ≤ 65535) :
 Calls Tryz.prog 40 #[.pointer (some ⟨B,0,none⟩),.int .u8 14,.string s] w fun e w' => ∃ r:Nat,e = .returned (.int .i64 (r:Int)) ∧ GotAt B b0 w w' M d 13 s r:=by
 obtain ⟨vs,r,hr⟩ : ∃ vs r,decG csBlock s.data.toList = (vs,r):=⟨_,_,rfl⟩
 have zi:=repBlock_rm s w (by omega) hr
 have hd:=dec_obj 65535 4 s (vs:=vs) (r:=r) hr
 have RW:=Lib.hid R
 have sM:=R.here.size
 have HB:=Lib.hid hB
 have HD:=Lib.hid hd
 clear hr hd R hB
 go_enter Tryz.func40,Tryz.ntmps40
 go_wp2_with (first
  | (go_at_call 87; (with_reducible refine zi.mono ?_); rintro e w1 ⟨c,rfl,g1,hR⟩; have HR:=Lib.hid hR; clear hR; have h1:=wide_blk HB.out g1; have sc:=(HR.out _ (Keeps.refl _ _)).1.size; have oc:=(HR.out _ (Keeps.refl _ _)).1.one)
  | (with_reducible refine wpList_field rfl 51 (.tmp 142) 15 rfl B 0 41 rfl (fieldM15 _) ?_)
  | (with_reducible refine wpList_store_part rfl 42 (.tmp 143) (.tmp 140) rfl B 41 c rfl rfl 51 M h1 (by rw [sc]; kernel_rfl) (by rw [sc,sM]; decide) oc (new:=setPart M 41 c) rfl ?_))
 go_ret
 obtain ⟨g2,h2⟩:=setRow_facts (setPart M 41 c) h1
 have b2:=g1.but [B] |>.trans g2 (fun j m => .inl m)
 refine ⟨r,rfl,b2,?_⟩
 have hM52:=RW.out.here.size
 by_cases q:r = 0
 · refine .inl ⟨.obj vs,_,?_,q,h2,fun W k => RepD.set13 (RW.out W ((b2.keeps hb).trans k)) (HR.out W ((g2.keeps (Nat.lt_of_lt_of_le hb hz)).trans (k.less hz))).1,⟨rowGot_no (by decide) (keepP (by rw [sc,hM52]; decide) (by rw [sc]; decide)),rowGot_no (by decide) (keepP (by rw [sc,hM52]; decide) (by rw [sc]; decide)),rowGot_yes (rowP (off:=41) (k:=1) (N:=2) hM52 sc (by decide) rfl (by decide) (HR.out _ (g2.keeps (Nat.lt_of_lt_of_le hb hz))).2)⟩⟩
   have:=HD.out; rw [if_pos q] at this; exact this
 · refine .inr ⟨?_,q⟩
   have:=HD.out; rw [if_neg q] at this; exact this
theorem pget_15 {w:World} {B b0:Nat} {M:Array Value} {d:MsgD} (hB:w.heap[B]? = some (.cells M 51 (0,0))) (hb:B < b0) (hz:b0 ≤ w.heap.size) (R:RepK b0 w M d) (s:ByteArray) (hs:s.size ≤ 65535) :
 Calls Tryz.prog 40 #[.pointer (some ⟨B,0,none⟩),.int .u8 15,.string s] w fun e w' => ∃ r:Nat,e = .returned (.int .i64 (r:Int)) ∧ GotAt B b0 w w' M d 14 s r:=by
 obtain ⟨vs,r,hr⟩ : ∃ vs r,decG csGroup s.data.toList = (vs,r):=⟨_,_,rfl⟩
 have zi:=repGroup_read s w (by omega) hr
 have hd:=dec_obj 65535 5 s (vs:=vs) (r:=r) hr
 have RW:=Lib.hid R
 have sM:=R.here.size
 have HB:=Lib.hid hB
 have HD:=Lib.hid hd
 clear hr hd R hB
 go_enter Tryz.func40,Tryz.ntmps40
 go_wp2_with (first
  | (go_at_call 88; (with_reducible refine zi.mono ?_); rintro e w1 ⟨c,rfl,g1,hR⟩; have HR:=Lib.hid hR; clear hR; have h1:=wide_blk HB.out g1; have sc:=(HR.out _ (Keeps.refl _ _)).size; have oc:=(HR.out _ (Keeps.refl _ _)).one)
  | (with_reducible refine wpList_field rfl 51 (.tmp 152) 16 rfl B 0 43 rfl (fieldM16 _) ?_)
  | (with_reducible refine wpList_store_part rfl 45 (.tmp 153) (.tmp 150) rfl B 43 c rfl rfl 51 M h1 (by rw [sc]; kernel_rfl) (by rw [sc,sM]; decide) oc (new:=setPart M 43 c) rfl ?_))
 go_ret
 obtain ⟨g2,h2⟩:=setRow_facts (setPart M 43 c) h1
 have b2:=g1.but [B] |>.trans g2 (fun j m => .inl m)
 refine ⟨r,rfl,b2,?_⟩
 have hM52:=RW.out.here.size
 by_cases q:r = 0
 · refine .inl ⟨.obj vs,_,?_,q,h2,fun W k => RepD.set14 (RW.out W ((b2.keeps hb).trans k)) (HR.out W ((g2.keeps (Nat.lt_of_lt_of_le hb hz)).trans (k.less hz))),⟨rowGot_no (by decide) (keepP (by rw [sc,hM52]; decide) (by rw [sc]; decide)),rowGot_no (by decide) (keepP (by rw [sc,hM52]; decide) (by rw [sc]; decide)),rowGot_no (by decide) (keepP (by rw [sc,hM52]; decide) (by rw [sc]; decide))⟩⟩
   have:=HD.out; rw [if_pos q] at this; exact this
 · refine .inr ⟨?_,q⟩
   have:=HD.out; rw [if_neg q] at this; exact this
theorem pget_16 {w:World} {B b0:Nat} {M:Array Value} {d:MsgD} (hB:w.heap[B]? = some (.cells M 51 (0,0))) (hb:B < b0) (hz:b0 ≤ w.heap.size) (R:RepK b0 w M d) (s:ByteArray) (hs:s.size ≤ 65535) :
 Calls Tryz.prog 40 #[.pointer (some ⟨B,0,none⟩),.int .u8 16,.string s] w fun e w' => ∃ r:Nat,e = .returned (.int .i64 (r:Int)) ∧ GotAt B b0 w w' M d 15 s r:=by
 obtain ⟨vs,r,hr⟩ : ∃ vs r,decG csMeter s.data.toList = (vs,r):=⟨_,_,rfl⟩
 have zi:=repMeter_read s w (by omega) hr
 have hd:=dec_obj 65535 6 s (vs:=vs) (r:=r) hr
 have RW:=Lib.hid R
 have sM:=R.here.size
 have HB:=Lib.hid hB
 have HD:=Lib.hid hd
 clear hr hd R hB
 go_enter Tryz.func40,Tryz.ntmps40
 go_wp2_with (first
  | (go_at_call 89; (with_reducible refine zi.mono ?_); rintro e w1 ⟨c,rfl,g1,hR⟩; have HR:=Lib.hid hR; clear hR; have h1:=wide_blk HB.out g1; have sc:=(HR.out _ (Keeps.refl _ _)).size; have oc:=(HR.out _ (Keeps.refl _ _)).one)
  | (with_reducible refine wpList_field rfl 51 (.tmp 162) 17 rfl B 0 47 rfl (fieldM17 _) ?_)
  | (with_reducible refine wpList_store_part rfl 47 (.tmp 163) (.tmp 160) rfl B 47 c rfl rfl 51 M h1 (by rw [sc]; kernel_rfl) (by rw [sc,sM]; decide) oc (new:=setPart M 47 c) rfl ?_))
 go_ret
 obtain ⟨g2,h2⟩:=setRow_facts (setPart M 47 c) h1
 have b2:=g1.but [B] |>.trans g2 (fun j m => .inl m)
 refine ⟨r,rfl,b2,?_⟩
 have hM52:=RW.out.here.size
 by_cases q:r = 0
 · refine .inl ⟨.obj vs,_,?_,q,h2,fun W k => RepD.set15 (RW.out W ((b2.keeps hb).trans k)) (HR.out W ((g2.keeps (Nat.lt_of_lt_of_le hb hz)).trans (k.less hz))),⟨rowGot_no (by decide) (keepP (by rw [sc,hM52]; decide) (by rw [sc]; decide)),rowGot_no (by decide) (keepP (by rw [sc,hM52]; decide) (by rw [sc]; decide)),rowGot_no (by decide) (keepP (by rw [sc,hM52]; decide) (by rw [sc]; decide))⟩⟩
   have:=HD.out; rw [if_pos q] at this; exact this
 · refine .inr ⟨?_,q⟩
   have:=HD.out; rw [if_neg q] at this; exact this
theorem pget_17 {w:World} {B b0:Nat} {M:Array Value} {d:MsgD} (hB:w.heap[B]? = some (.cells M 51 (0,0))) (hb:B < b0) (hz:b0 ≤ w.heap.size) (R:RepK b0 w M d) (s:ByteArray) (hs:s.size ≤ 65535) :
 Calls Tryz.prog 40 #[.pointer (some ⟨B,0,none⟩),.int .u8 17,.string s] w fun e w' => ∃ r:Nat,e = .returned (.int .i64 (r:Int)) ∧ GotAt B b0 w w' M d 16 s r:=by
 obtain ⟨vs,r,hr⟩ : ∃ vs r,decG csRegs s.data.toList = (vs,r):=⟨_,_,rfl⟩
 have zi:=repRegs_read s w (by omega) hr
 have hd:=dec_obj 65535 7 s (vs:=vs) (r:=r) hr
 have RW:=Lib.hid R
 have sM:=R.here.size
 have HB:=Lib.hid hB
 have HD:=Lib.hid hd
 clear hr hd R hB
 go_enter Tryz.func40,Tryz.ntmps40
 go_wp2_with (first
  | (go_at_call 90; (with_reducible refine zi.mono ?_); rintro e w1 ⟨c,rfl,g1,hR⟩; have HR:=Lib.hid hR; clear hR; have h1:=wide_blk HB.out g1; have sc:=(HR.out _ (Keeps.refl _ _)).size; have oc:=(HR.out _ (Keeps.refl _ _)).one)
  | (with_reducible refine wpList_field rfl 51 (.tmp 172) 18 rfl B 0 50 rfl (fieldM18 _) ?_)
  | (with_reducible refine wpList_store_part rfl 49 (.tmp 173) (.tmp 170) rfl B 50 c rfl rfl 51 M h1 (by rw [sc]; kernel_rfl) (by rw [sc,sM]; decide) oc (new:=setPart M 50 c) rfl ?_))
 go_ret
 obtain ⟨g2,h2⟩:=setRow_facts (setPart M 50 c) h1
 have b2:=g1.but [B] |>.trans g2 (fun j m => .inl m)
 refine ⟨r,rfl,b2,?_⟩
 have hM52:=RW.out.here.size
 by_cases q:r = 0
 · refine .inl ⟨.obj vs,_,?_,q,h2,fun W k => RepD.set16 (RW.out W ((b2.keeps hb).trans k)) (HR.out W ((g2.keeps (Nat.lt_of_lt_of_le hb hz)).trans (k.less hz))),⟨rowGot_no (by decide) (keepP (by rw [sc,hM52]; decide) (by rw [sc]; decide)),rowGot_no (by decide) (keepP (by rw [sc,hM52]; decide) (by rw [sc]; decide)),rowGot_no (by decide) (keepP (by rw [sc,hM52]; decide) (by rw [sc]; decide))⟩⟩
   have:=HD.out; rw [if_pos q] at this; exact this
 · refine .inr ⟨?_,q⟩
   have:=HD.out; rw [if_neg q] at this; exact this
theorem pget_c {w:World} {B b0:Nat} {M:Array Value} {d:MsgD} (hB:w.heap[B]? = some (.cells M 51 (0,0))) (hb:B < b0) (hz:b0 ≤ w.heap.size) (R:RepK b0 w M d) (s:ByteArray) (hs:s.size ≤ 65535) (t:Nat) (h1:1 ≤ t) (h2:t ≤ 17) :
 Calls Tryz.prog 40 #[.pointer (some ⟨B,0,none⟩),.int .u8 (t:Int),.string s] w fun e w' => ∃ r:Nat,e = .returned (.int .i64 (r:Int)) ∧ GotAt B b0 w w' M d (t - 1) s r:=by
 match t,h1,h2 with
 | 1,_,_ => exact pget_1 hB hb hz R s hs
 | 2,_,_ => exact pget_2 hB hb hz R s hs
 | 3,_,_ => exact pget_3 hB hb hz R s hs
 | 4,_,_ => exact pget_4 hB hb hz R s hs
 | 5,_,_ => exact pget_5 hB hb hz R s hs
 | 6,_,_ => exact pget_6 hB hb hz R s hs
 | 7,_,_ => exact pget_7 hB hb hz R s hs
 | 8,_,_ => exact pget_8 hB hb hz R s hs
 | 9,_,_ => exact pget_9 hB hb hz R s hs
 | 10,_,_ => exact pget_10 hB hb hz R s hs
 | 11,_,_ => exact pget_11 hB hb hz R s hs
 | 12,_,_ => exact pget_12 hB hb hz R s hs
 | 13,_,_ => exact pget_13 hB hb hz R s hs
 | 14,_,_ => exact pget_14 hB hb hz R s hs
 | 15,_,_ => exact pget_15 hB hb hz R s hs
 | 16,_,_ => exact pget_16 hB hb hz R s hs
 | 17,_,_ => exact pget_17 hB hb hz R s hs
 | 0,h,_ => omega
 | t + 18,_,h => omega
end Go.Proofs.YtoopdhgmdjienaaGreatDoor
