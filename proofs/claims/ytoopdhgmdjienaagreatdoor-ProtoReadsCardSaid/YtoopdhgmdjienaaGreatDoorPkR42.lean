/- PPut -/
import Derived.Test.YtoopdhgmdjienaaGreatDoorPkR25
namespace Go.Proofs.YtoopdhgmdjienaaGreatDoor
set_option linter.unusedVariables false
set_option maxRecDepth 20000
open Go.ChangeShapes Go.WideShapes Go.ChangeAt Go.RowKit Go.Joins
open Go.ChangeMaps (open_string shut_string)
set_option maxHeartbeats 64000000
theorem putC_int {n:Int} {T:ByteArray} {r:Nat} (h:PutC (oneP nI) (.one (.num n)) T r):PutC iI n T r:=by
 have e:(oneP nI).ok (.one (.num n)) ↔ iI.ok n :=
  ⟨fun ⟨v,e1,m,e2,q⟩ => by injection e1 with e1; rw [← e1] at e2; injection e2 with e2; rw [e2]; exact q,fun q => ⟨_,rfl,n,rfl,q⟩⟩
 rcases h with ⟨q,e2,e3⟩ | ⟨q,e2,e3⟩
 · exact .inl ⟨e.1 q,e2,e3⟩
 · exact .inr ⟨fun x => q (e.2 x),e2,e3⟩
theorem putC_long {n:Int} {T:ByteArray} {r:Nat} (hw:(Lit.int .u64 n).wf = true) (h:PutC (oneP nU) (.one (.num n)) T r):(∃ k:Nat,n = (k:Int) ∧ k < 18446744073709551616 ∧ mkB (numB k) = T) ∧ r = 0:=by
 have hn:=bnd_u64 hw
 rcases h with ⟨_,e2,e3⟩ | ⟨q,_,_⟩
 · exact ⟨⟨n.toNat,by omega,by omega,by rw [e2]; rfl⟩,e3⟩
 · exact absurd ⟨_,rfl,n,rfl,hn.1,hn.2⟩ q
theorem putC_text {s:ByteArray} {T:ByteArray} {r:Nat} (hs:s.size ≤ maxLen) (h:PutC (oneP (txtV topD)) (.one (.txt s)) T r):T = s ∧ r = 0:=by
 rcases h with ⟨_,e2,e3⟩ | ⟨q,_,_⟩
 · exact ⟨e2,e3⟩
 · exact absurd ⟨_,rfl,s,rfl,Nat.le_trans hs (by decide)⟩ q
theorem putC_obj {i:Nat} {vs:List ValN} {T:ByteArray} {r:Nat} (h:PutC (partC topD (i + 9)) (.obj vs) T r):PutG (csKind i) vs T r:=by
 have e:(partC topD (i + 9)).ok (.obj vs) ↔ okG (csKind i) vs :=
  ⟨fun ⟨v,e1,q⟩ => by injection e1 with e1; rw [e1]; exact q,fun q => ⟨_,rfl,q⟩⟩
 rcases h with ⟨q,e2,e3⟩ | ⟨q,e2,e3⟩
 · exact .inl ⟨e.1 q,e2.symm ▸ rfl,e3⟩
 · exact .inr ⟨fun x => q (e.2 x),e2,e3⟩
theorem pput_1 (w:World) {M:Array Value} {d:MsgD} (R:RepD w M d) {T:ByteArray} {r:Nat} (hr:PutC (partC topD 0) (.one (.num d.id)) T r) :
 Calls Tryz.prog 74 #[.agg M,.int .u8 1] w fun x w' => x = .returned (.tuple #[.string T,.int .i64 (r:Int)]) ∧ Wider w w':=by
 have sM:=R.size
 have g:=(Wider.refl w).alloc (.cells M 51)
 have hA:=heap_alloc_new w (.cells M 51)
 obtain ⟨W,hW⟩ : ∃ W,w.alloc (.cells M 51) = W:=⟨_,rfl⟩
 obtain ⟨B,hB⟩ : ∃ B,w.heap.size = B:=⟨_,rfl⟩
 rw [hW] at g hA
 rw [hB] at hA
 have hn:=bnd_i64 R.w2
 have hc:=blk_cell hA 2 R.c2
 have z:=putInt_c W d.id hn.1 hn.2 (putC_int hr)
 clear hr hn
 go_enter Tryz.func74,Tryz.ntmps74
 go_upto_region 1 with (fail)
 clear hW
 go_wp2_with (first
  | (with_reducible refine wpList_field rfl 51 (.tmp 2) 2 rfl B 0 2 rfl (fieldM2 _) ?_)
  | (go_at_call 109; (with_reducible refine z.mono ?_); rintro e wN ⟨rfl,gN⟩))
 go_ret2
 exact ⟨rfl,g.trans gN⟩
theorem pput_2 (w:World) {M:Array Value} {d:MsgD} (R:RepD w M d) {T:ByteArray} {r:Nat} (hr:PutC (partC topD 1) (.one (.num d.idx)) T r) :
 Calls Tryz.prog 74 #[.agg M,.int .u8 2] w fun x w' => x = .returned (.tuple #[.string T,.int .i64 (r:Int)]) ∧ Wider w w':=by
 have sM:=R.size
 have g:=(Wider.refl w).alloc (.cells M 51)
 have hA:=heap_alloc_new w (.cells M 51)
 obtain ⟨W,hW⟩ : ∃ W,w.alloc (.cells M 51) = W:=⟨_,rfl⟩
 obtain ⟨B,hB⟩ : ∃ B,w.heap.size = B:=⟨_,rfl⟩
 rw [hW] at g hA
 rw [hB] at hA
 have hn:=bnd_i64 R.w3
 have hc:=blk_cell hA 3 R.c3
 have z:=putInt_c W d.idx hn.1 hn.2 (putC_int hr)
 clear hr hn
 go_enter Tryz.func74,Tryz.ntmps74
 go_upto_region 1 with (fail)
 clear hW
 go_wp2_with (first
  | (with_reducible refine wpList_field rfl 51 (.tmp 2) 3 rfl B 0 3 rfl (fieldM3 _) ?_)
  | (go_at_call 109; (with_reducible refine z.mono ?_); rintro e wN ⟨rfl,gN⟩))
 go_ret2
 exact ⟨rfl,g.trans gN⟩
theorem pput_3 (w:World) {M:Array Value} {d:MsgD} (R:RepD w M d) {T:ByteArray} {r:Nat} (hr:PutC (partC topD 2) (.one (.num d.code)) T r) :
 Calls Tryz.prog 74 #[.agg M,.int .u8 3] w fun x w' => x = .returned (.tuple #[.string T,.int .i64 (r:Int)]) ∧ Wider w w':=by
 have sM:=R.size
 have g:=(Wider.refl w).alloc (.cells M 51)
 have hA:=heap_alloc_new w (.cells M 51)
 obtain ⟨W,hW⟩ : ∃ W,w.alloc (.cells M 51) = W:=⟨_,rfl⟩
 obtain ⟨B,hB⟩ : ∃ B,w.heap.size = B:=⟨_,rfl⟩
 rw [hW] at g hA
 rw [hB] at hA
 have hn:=bnd_i64 R.w4
 have hc:=blk_cell hA 4 R.c4
 have z:=putInt_c W d.code hn.1 hn.2 (putC_int hr)
 clear hr hn
 go_enter Tryz.func74,Tryz.ntmps74
 go_upto_region 1 with (fail)
 clear hW
 go_wp2_with (first
  | (with_reducible refine wpList_field rfl 51 (.tmp 2) 4 rfl B 0 4 rfl (fieldM4 _) ?_)
  | (go_at_call 109; (with_reducible refine z.mono ?_); rintro e wN ⟨rfl,gN⟩))
 go_ret2
 exact ⟨rfl,g.trans gN⟩
theorem pput_4 (w:World) {M:Array Value} {d:MsgD} (R:RepD w M d) {T:ByteArray} {r:Nat} (hr:PutC (partC topD 3) (.one (.num d.port)) T r) :
 Calls Tryz.prog 74 #[.agg M,.int .u8 4] w fun x w' => x = .returned (.tuple #[.string T,.int .i64 (r:Int)]) ∧ Wider w w':=by
 have sM:=R.size
 have g:=(Wider.refl w).alloc (.cells M 51)
 have hA:=heap_alloc_new w (.cells M 51)
 obtain ⟨W,hW⟩ : ∃ W,w.alloc (.cells M 51) = W:=⟨_,rfl⟩
 obtain ⟨B,hB⟩ : ∃ B,w.heap.size = B:=⟨_,rfl⟩
 rw [hW] at g hA
 rw [hB] at hA
 have hn:=bnd_i64 R.w5
 have hc:=blk_cell hA 5 R.c5
 have z:=putInt_c W d.port hn.1 hn.2 (putC_int hr)
 clear hr hn
 go_enter Tryz.func74,Tryz.ntmps74
 go_upto_region 1 with (fail)
 clear hW
 go_wp2_with (first
  | (with_reducible refine wpList_field rfl 51 (.tmp 2) 5 rfl B 0 5 rfl (fieldM5 _) ?_)
  | (go_at_call 109; (with_reducible refine z.mono ?_); rintro e wN ⟨rfl,gN⟩))
 go_ret2
 exact ⟨rfl,g.trans gN⟩
theorem pput_5 (w:World) {M:Array Value} {d:MsgD} (R:RepD w M d) {T:ByteArray} {r:Nat} (hr:PutC (partC topD 4) (.one (.num d.tag)) T r) :
 Calls Tryz.prog 74 #[.agg M,.int .u8 5] w fun x w' => x = .returned (.tuple #[.string T,.int .i64 (r:Int)]) ∧ Wider w w':=by
 have sM:=R.size
 have g:=(Wider.refl w).alloc (.cells M 51)
 have hA:=heap_alloc_new w (.cells M 51)
 obtain ⟨W,hW⟩ : ∃ W,w.alloc (.cells M 51) = W:=⟨_,rfl⟩
 obtain ⟨B,hB⟩ : ∃ B,w.heap.size = B:=⟨_,rfl⟩
 rw [hW] at g hA
 rw [hB] at hA
 have hn:=bnd_i64 R.w6
 have hc:=blk_cell hA 6 R.c6
 have z:=putInt_c W d.tag hn.1 hn.2 (putC_int hr)
 clear hr hn
 go_enter Tryz.func74,Tryz.ntmps74
 go_upto_region 1 with (fail)
 clear hW
 go_wp2_with (first
  | (with_reducible refine wpList_field rfl 51 (.tmp 2) 6 rfl B 0 6 rfl (fieldM6 _) ?_)
  | (go_at_call 109; (with_reducible refine z.mono ?_); rintro e wN ⟨rfl,gN⟩))
 go_ret2
 exact ⟨rfl,g.trans gN⟩
theorem pput_6 (w:World) {M:Array Value} {d:MsgD} (R:RepD w M d) {T:ByteArray} {r:Nat} (hr:PutC (partC topD 5) (.one (.num d.n)) T r) :
 Calls Tryz.prog 74 #[.agg M,.int .u8 6] w fun x w' => x = .returned (.tuple #[.string T,.int .i64 (r:Int)]) ∧ Wider w w':=by
 have sM:=R.size
 have g:=(Wider.refl w).alloc (.cells M 51)
 have hA:=heap_alloc_new w (.cells M 51)
 obtain ⟨W,hW⟩ : ∃ W,w.alloc (.cells M 51) = W:=⟨_,rfl⟩
 obtain ⟨B,hB⟩ : ∃ B,w.heap.size = B:=⟨_,rfl⟩
 rw [hW] at g hA
 rw [hB] at hA
 obtain ⟨⟨k,hk,hk2,hT⟩,rfl⟩:=putC_long R.w7 hr
 have hc:=blk_cell hA 7 R.c7
 rw [hk] at hc
 have z:=tnum_a k W hk2 hT
 clear hr hT
 go_enter Tryz.func74,Tryz.ntmps74
 go_upto_region 1 with (fail)
 clear hW
 go_wp2_with (first
  | (with_reducible refine wpList_field rfl 51 (.tmp 2) 7 rfl B 0 7 rfl (fieldM7 _) ?_)
  | (go_at_call 110; (with_reducible refine z.mono ?_); rintro e wN ⟨rfl,gN⟩))
 go_ret2
 exact ⟨rfl,g.trans gN⟩
theorem pput_7 (w:World) {M:Array Value} {d:MsgD} (R:RepD w M d) {T:ByteArray} {r:Nat} (hr:PutC (partC topD 6) (.one (.num d.m)) T r) :
 Calls Tryz.prog 74 #[.agg M,.int .u8 7] w fun x w' => x = .returned (.tuple #[.string T,.int .i64 (r:Int)]) ∧ Wider w w':=by
 have sM:=R.size
 have g:=(Wider.refl w).alloc (.cells M 51)
 have hA:=heap_alloc_new w (.cells M 51)
 obtain ⟨W,hW⟩ : ∃ W,w.alloc (.cells M 51) = W:=⟨_,rfl⟩
 obtain ⟨B,hB⟩ : ∃ B,w.heap.size = B:=⟨_,rfl⟩
 rw [hW] at g hA
 rw [hB] at hA
 obtain ⟨⟨k,hk,hk2,hT⟩,rfl⟩:=putC_long R.w8 hr
 have hc:=blk_cell hA 8 R.c8
 rw [hk] at hc
 have z:=tnum_a k W hk2 hT
 clear hr hT
 go_enter Tryz.func74,Tryz.ntmps74
 go_upto_region 1 with (fail)
 clear hW
 go_wp2_with (first
  | (with_reducible refine wpList_field rfl 51 (.tmp 2) 8 rfl B 0 8 rfl (fieldM8 _) ?_)
  | (go_at_call 110; (with_reducible refine z.mono ?_); rintro e wN ⟨rfl,gN⟩))
 go_ret2
 exact ⟨rfl,g.trans gN⟩
theorem pput_8 (w:World) {M:Array Value} {d:MsgD} (R:RepD w M d) {T:ByteArray} {r:Nat} (hr:PutC (partC topD 7) (.one (.txt d.data)) T r) :
 Calls Tryz.prog 74 #[.agg M,.int .u8 8] w fun x w' => x = .returned (.tuple #[.string T,.int .i64 (r:Int)]) ∧ Wider w w':=by
 have sM:=R.size
 have g:=(Wider.refl w).alloc (.cells M 51)
 have hA:=heap_alloc_new w (.cells M 51)
 obtain ⟨W,hW⟩ : ∃ W,w.alloc (.cells M 51) = W:=⟨_,rfl⟩
 obtain ⟨B,hB⟩ : ∃ B,w.heap.size = B:=⟨_,rfl⟩
 rw [hW] at g hA
 rw [hB] at hA
 obtain ⟨rfl,rfl⟩:=putC_text R.w9 hr
 have hc:=blk_cell hA 9 R.c9
 have gN:=Wider.refl W
 clear hr
 go_enter Tryz.func74,Tryz.ntmps74
 go_upto_region 1 with (fail)
 clear hW
 go_wp2_with (first
  | (with_reducible refine wpList_field rfl 51 (.tmp 2) 9 rfl B 0 9 rfl (fieldM9 _) ?_)
  | (fail))
 go_ret2
 exact ⟨rfl,g.trans gN⟩
theorem pput_9 (w:World) {M:Array Value} {d:MsgD} (R:RepD w M d) {T:ByteArray} {r:Nat} (hr:PutC (partC topD 8) (.one (.lst d.words)) T r) :
 Calls Tryz.prog 74 #[.agg M,.int .u8 9] w fun x w' => x = .returned (.tuple #[.string T,.int .i64 (r:Int)]) ∧ Wider w w':=by
 have sM:=R.size
 have g:=(Wider.refl w).alloc (.cells M 51)
 have hA:=heap_alloc_new w (.cells M 51)
 obtain ⟨W,hW⟩ : ∃ W,w.alloc (.cells M 51) = W:=⟨_,rfl⟩
 obtain ⟨B,hB⟩ : ∃ B,w.heap.size = B:=⟨_,rfl⟩
 rw [hW] at g hA
 rw [hB] at hA
 obtain ⟨v,A,n,cap,ev,rfl,row,len,few,wf⟩:=R.c10
 have hc:=blk_cell hA 10 ev
 have z:=putWords_c W (cap:=cap) (row.on g) len few wf hr
 clear hr row len few wf ev
 go_enter Tryz.func74,Tryz.ntmps74
 go_upto_region 1 with (fail)
 clear hW
 go_wp2_with (first
  | (with_reducible refine wpList_field rfl 51 (.tmp 2) 10 rfl B 0 10 rfl (fieldM10 _) ?_)
  | (go_at_call 111; (with_reducible refine z.mono ?_); rintro e wN ⟨rfl,gN⟩))
 go_ret2
 exact ⟨rfl,g.trans gN⟩
theorem pput_10 (w:World) {M:Array Value} {d:MsgD} (R:RepD w M d) {T:ByteArray} {r:Nat} (hr:PutC (partC topD 9) (.obj (d.V 0)) T r) :
 Calls Tryz.prog 74 #[.agg M,.int .u8 10] w fun x w' => x = .returned (.tuple #[.string T,.int .i64 (r:Int)]) ∧ Wider w w':=by
 have sM:=R.size
 have g:=(Wider.refl w).alloc (.cells M 51)
 have hA:=heap_alloc_new w (.cells M 51)
 obtain ⟨W,hW⟩ : ∃ W,w.alloc (.cells M 51) = W:=⟨_,rfl⟩
 obtain ⟨B,hB⟩ : ∃ B,w.heap.size = B:=⟨_,rfl⟩
 rw [hW] at g hA
 rw [hB] at hA
 have z:=(R.A.r0.on g).put (putC_obj (i:=0) hr)
 clear hr
 go_enter Tryz.func74,Tryz.ntmps74
 go_upto_region 1 with (fail)
 clear hW
 go_wp2_with (first
  | (with_reducible refine wpList_field rfl 51 (.tmp 2) 11 rfl B 0 11 rfl (fieldM11 _) ?_)
  | (go_at_call 112; (with_reducible refine z.mono ?_); rintro e wN ⟨rfl,gN⟩)
  | (with_reducible refine wpList_load_part rfl 32 (.tmp 65) rfl B 11 9 20 rfl rfl _ hA (by rw [sM]; decide) Tryz.underlying32 rfl (by kernel_rfl) ?_))
 go_ret2
 exact ⟨rfl,g.trans gN⟩
theorem pput_11 (w:World) {M:Array Value} {d:MsgD} (R:RepD w M d) {T:ByteArray} {r:Nat} (hr:PutC (partC topD 10) (.obj (d.V 1)) T r) :
 Calls Tryz.prog 74 #[.agg M,.int .u8 11] w fun x w' => x = .returned (.tuple #[.string T,.int .i64 (r:Int)]) ∧ Wider w w':=by
 have sM:=R.size
 have g:=(Wider.refl w).alloc (.cells M 51)
 have hA:=heap_alloc_new w (.cells M 51)
 obtain ⟨W,hW⟩ : ∃ W,w.alloc (.cells M 51) = W:=⟨_,rfl⟩
 obtain ⟨B,hB⟩ : ∃ B,w.heap.size = B:=⟨_,rfl⟩
 rw [hW] at g hA
 rw [hB] at hA
 have z:=(R.A.r1.on g).put (putC_obj (i:=1) hr)
 clear hr
 go_enter Tryz.func74,Tryz.ntmps74
 go_upto_region 1 with (fail)
 clear hW
 go_wp2_with (first
  | (with_reducible refine wpList_field rfl 51 (.tmp 2) 12 rfl B 0 20 rfl (fieldM12 _) ?_)
  | (go_at_call 113; (with_reducible refine z.mono ?_); rintro e wN ⟨rfl,gN⟩)
  | (with_reducible refine wpList_load_part rfl 34 (.tmp 72) rfl B 20 5 25 rfl rfl _ hA (by rw [sM]; decide) Tryz.underlying34 rfl (by kernel_rfl) ?_))
 go_ret2
 exact ⟨rfl,g.trans gN⟩
theorem pput_12 (w:World) {M:Array Value} {d:MsgD} (R:RepD w M d) {T:ByteArray} {r:Nat} (hr:PutC (partC topD 11) (.obj (d.V 2)) T r) :
 Calls Tryz.prog 74 #[.agg M,.int .u8 12] w fun x w' => x = .returned (.tuple #[.string T,.int .i64 (r:Int)]) ∧ Wider w w':=by
 have sM:=R.size
 have g:=(Wider.refl w).alloc (.cells M 51)
 have hA:=heap_alloc_new w (.cells M 51)
 obtain ⟨W,hW⟩ : ∃ W,w.alloc (.cells M 51) = W:=⟨_,rfl⟩
 obtain ⟨B,hB⟩ : ∃ B,w.heap.size = B:=⟨_,rfl⟩
 rw [hW] at g hA
 rw [hB] at hA
 have z:=(R.A.r2.on g).put (putC_obj (i:=2) hr)
 clear hr
 go_enter Tryz.func74,Tryz.ntmps74
 go_upto_region 1 with (fail)
 clear hW
 go_wp2_with (first
  | (with_reducible refine wpList_field rfl 51 (.tmp 2) 13 rfl B 0 25 rfl (fieldM13 _) ?_)
  | (go_at_call 114; (with_reducible refine z.mono ?_); rintro e wN ⟨rfl,gN⟩)
  | (with_reducible refine wpList_load_part rfl 37 (.tmp 79) rfl B 25 5 30 rfl rfl _ hA (by rw [sM]; decide) Tryz.underlying37 rfl (by kernel_rfl) ?_))
 go_ret2
 exact ⟨rfl,g.trans gN⟩
theorem pput_13 (w:World) {M:Array Value} {d:MsgD} (R:RepD w M d) {T:ByteArray} {r:Nat} (hr:PutC (partC topD 12) (.obj (d.V 3)) T r) :
 Calls Tryz.prog 74 #[.agg M,.int .u8 13] w fun x w' => x = .returned (.tuple #[.string T,.int .i64 (r:Int)]) ∧ Wider w w':=by
 have sM:=R.size
 have g:=(Wider.refl w).alloc (.cells M 51)
 have hA:=heap_alloc_new w (.cells M 51)
 obtain ⟨W,hW⟩ : ∃ W,w.alloc (.cells M 51) = W:=⟨_,rfl⟩
 obtain ⟨B,hB⟩ : ∃ B,w.heap.size = B:=⟨_,rfl⟩
 rw [hW] at g hA
 rw [hB] at hA
 have z:=(R.A.r3.on g).put (putC_obj (i:=3) hr)
 clear hr
 go_enter Tryz.func74,Tryz.ntmps74
 go_upto_region 1 with (fail)
 clear hW
 go_wp2_with (first
  | (with_reducible refine wpList_field rfl 51 (.tmp 2) 14 rfl B 0 30 rfl (fieldM14 _) ?_)
  | (go_at_call 115; (with_reducible refine z.mono ?_); rintro e wN ⟨rfl,gN⟩)
  | (with_reducible refine wpList_load_part rfl 39 (.tmp 86) rfl B 30 11 41 rfl rfl _ hA (by rw [sM]; decide) Tryz.underlying39 rfl (by kernel_rfl) ?_))
 go_ret2
 exact ⟨rfl,g.trans gN⟩
theorem pput_14 (w:World) {M:Array Value} {d:MsgD} (R:RepD w M d) {T:ByteArray} {r:Nat} (hr:PutC (partC topD 13) (.obj (d.V 4)) T r) :
 Calls Tryz.prog 74 #[.agg M,.int .u8 14] w fun x w' => x = .returned (.tuple #[.string T,.int .i64 (r:Int)]) ∧ Wider w w':=by
 have sM:=R.size
 have g:=(Wider.refl w).alloc (.cells M 51)
 have hA:=heap_alloc_new w (.cells M 51)
 obtain ⟨W,hW⟩ : ∃ W,w.alloc (.cells M 51) = W:=⟨_,rfl⟩
 obtain ⟨B,hB⟩ : ∃ B,w.heap.size = B:=⟨_,rfl⟩
 rw [hW] at g hA
 rw [hB] at hA
 have z:=(R.A.r4.on g).put (putC_obj (i:=4) hr)
 clear hr
 go_enter Tryz.func74,Tryz.ntmps74
 go_upto_region 1 with (fail)
 clear hW
 go_wp2_with (first
  | (with_reducible refine wpList_field rfl 51 (.tmp 2) 15 rfl B 0 41 rfl (fieldM15 _) ?_)
  | (go_at_call 116; (with_reducible refine z.mono ?_); rintro e wN ⟨rfl,gN⟩)
  | (with_reducible refine wpList_load_part rfl 42 (.tmp 93) rfl B 41 2 43 rfl rfl _ hA (by rw [sM]; decide) Tryz.underlying42 rfl (by kernel_rfl) ?_))
 go_ret2
 exact ⟨rfl,g.trans gN⟩
theorem pput_15 (w:World) {M:Array Value} {d:MsgD} (R:RepD w M d) {T:ByteArray} {r:Nat} (hr:PutC (partC topD 14) (.obj (d.V 5)) T r) :
 Calls Tryz.prog 74 #[.agg M,.int .u8 15] w fun x w' => x = .returned (.tuple #[.string T,.int .i64 (r:Int)]) ∧ Wider w w':=by
 have sM:=R.size
 have g:=(Wider.refl w).alloc (.cells M 51)
 have hA:=heap_alloc_new w (.cells M 51)
 obtain ⟨W,hW⟩ : ∃ W,w.alloc (.cells M 51) = W:=⟨_,rfl⟩
 obtain ⟨B,hB⟩ : ∃ B,w.heap.size = B:=⟨_,rfl⟩
 rw [hW] at g hA
 rw [hB] at hA
 have z:=(R.A.r5.on g).put (putC_obj (i:=5) hr)
 clear hr
 go_enter Tryz.func74,Tryz.ntmps74
 go_upto_region 1 with (fail)
 clear hW
 go_wp2_with (first
  | (with_reducible refine wpList_field rfl 51 (.tmp 2) 16 rfl B 0 43 rfl (fieldM16 _) ?_)
  | (go_at_call 117; (with_reducible refine z.mono ?_); rintro e wN ⟨rfl,gN⟩)
  | (with_reducible refine wpList_load_part rfl 45 (.tmp 100) rfl B 43 4 47 rfl rfl _ hA (by rw [sM]; decide) Tryz.underlying45 rfl (by kernel_rfl) ?_))
 go_ret2
 exact ⟨rfl,g.trans gN⟩
theorem pput_16 (w:World) {M:Array Value} {d:MsgD} (R:RepD w M d) {T:ByteArray} {r:Nat} (hr:PutC (partC topD 15) (.obj (d.V 6)) T r) :
 Calls Tryz.prog 74 #[.agg M,.int .u8 16] w fun x w' => x = .returned (.tuple #[.string T,.int .i64 (r:Int)]) ∧ Wider w w':=by
 have sM:=R.size
 have g:=(Wider.refl w).alloc (.cells M 51)
 have hA:=heap_alloc_new w (.cells M 51)
 obtain ⟨W,hW⟩ : ∃ W,w.alloc (.cells M 51) = W:=⟨_,rfl⟩
 obtain ⟨B,hB⟩ : ∃ B,w.heap.size = B:=⟨_,rfl⟩
 rw [hW] at g hA
 rw [hB] at hA
 have z:=(R.A.r6.on g).put (putC_obj (i:=6) hr)
 clear hr
 go_enter Tryz.func74,Tryz.ntmps74
 go_upto_region 1 with (fail)
 clear hW
 go_wp2_with (first
  | (with_reducible refine wpList_field rfl 51 (.tmp 2) 17 rfl B 0 47 rfl (fieldM17 _) ?_)
  | (go_at_call 118; (with_reducible refine z.mono ?_); rintro e wN ⟨rfl,gN⟩)
  | (with_reducible refine wpList_load_part rfl 47 (.tmp 107) rfl B 47 3 50 rfl rfl _ hA (by rw [sM]; decide) Tryz.underlying47 rfl (by kernel_rfl) ?_))
 go_ret2
 exact ⟨rfl,g.trans gN⟩
theorem pput_17 (w:World) {M:Array Value} {d:MsgD} (R:RepD w M d) {T:ByteArray} {r:Nat} (hr:PutC (partC topD 16) (.obj (d.V 7)) T r) :
 Calls Tryz.prog 74 #[.agg M,.int .u8 17] w fun x w' => x = .returned (.tuple #[.string T,.int .i64 (r:Int)]) ∧ Wider w w':=by
 have sM:=R.size
 have g:=(Wider.refl w).alloc (.cells M 51)
 have hA:=heap_alloc_new w (.cells M 51)
 obtain ⟨W,hW⟩ : ∃ W,w.alloc (.cells M 51) = W:=⟨_,rfl⟩
 obtain ⟨B,hB⟩ : ∃ B,w.heap.size = B:=⟨_,rfl⟩
 rw [hW] at g hA
 rw [hB] at hA
 have z:=(R.A.r7.on g).put (putC_obj (i:=7) hr)
 clear hr
 go_enter Tryz.func74,Tryz.ntmps74
 go_upto_region 1 with (fail)
 clear hW
 go_wp2_with (first
  | (with_reducible refine wpList_field rfl 51 (.tmp 2) 18 rfl B 0 50 rfl (fieldM18 _) ?_)
  | (go_at_call 119; (with_reducible refine z.mono ?_); rintro e wN ⟨rfl,gN⟩)
  | (with_reducible refine wpList_load_part rfl 49 (.tmp 114) rfl B 50 2 52 rfl rfl _ hA (by rw [sM]; decide) Tryz.underlying49 rfl (by kernel_rfl) ?_))
 go_ret2
 exact ⟨rfl,g.trans gN⟩
theorem pput_c (w:World) {M:Array Value} {d:MsgD} (R:RepD w M d) (i:Nat) {p:PartN} (hp:d.ps[i]? = some p) {T:ByteArray} {r:Nat} (hr:PutC (partC topD i) p T r) :
 Calls Tryz.prog 74 #[.agg M,.int .u8 ((i:Int) + 1)] w fun x w' => x = .returned (.tuple #[.string T,.int .i64 (r:Int)]) ∧ Wider w w':=by
 match i,hp with
 | 0,hp => injection hp with hp; subst hp; exact pput_1 w R hr
 | 1,hp => injection hp with hp; subst hp; exact pput_2 w R hr
 | 2,hp => injection hp with hp; subst hp; exact pput_3 w R hr
 | 3,hp => injection hp with hp; subst hp; exact pput_4 w R hr
 | 4,hp => injection hp with hp; subst hp; exact pput_5 w R hr
 | 5,hp => injection hp with hp; subst hp; exact pput_6 w R hr
 | 6,hp => injection hp with hp; subst hp; exact pput_7 w R hr
 | 7,hp => injection hp with hp; subst hp; exact pput_8 w R hr
 | 8,hp => injection hp with hp; subst hp; exact pput_9 w R hr
 | 9,hp => injection hp with hp; subst hp; exact pput_10 w R hr
 | 10,hp => injection hp with hp; subst hp; exact pput_11 w R hr
 | 11,hp => injection hp with hp; subst hp; exact pput_12 w R hr
 | 12,hp => injection hp with hp; subst hp; exact pput_13 w R hr
 | 13,hp => injection hp with hp; subst hp; exact pput_14 w R hr
 | 14,hp => injection hp with hp; subst hp; exact pput_15 w R hr
 | 15,hp => injection hp with hp; subst hp; exact pput_16 w R hr
 | 16,hp => injection hp with hp; subst hp; exact pput_17 w R hr
 | i + 17,hp => simp [MsgD.ps] at hp
end Go.Proofs.YtoopdhgmdjienaaGreatDoor
