/- PIs PRHas PTypes -/
import Derived.Test.YtoopdhgmdjienaaGreatDoorPkR46
namespace Go.Proofs.YtoopdhgmdjienaaGreatDoor
set_option linter.unusedVariables false
set_option maxRecDepth 20000
open Go.ChangeShapes Go.WideShapes Go.ChangeAt Go.RowKit Go.Joins
open Go.ChangeMaps (open_string shut_string)
set_option maxHeartbeats 64000000
theorem wider_size {a b:World} (g:Wider a b):a.heap.size ≤ b.heap.size:=g.2
section
variable {P:Program}
theorem wpList_load_row_w {ops:Array Oper} {rest:List Oper} {o:Oper} {a:Act} {w:World} {Q:Exit → Act → World → Prop} (hw:Region.wanted o (yielded ops a.tmps) = true) (ty:TypeId) (x:Operand) (ho:o.op = .load ty x)
 (g:Nat) (hx:a.eval x = .pointer (some ⟨g,0,none⟩)) (t:TypeId) (cs:Array Value) (fr:Nat × Nat) (d:TypeDesc) (hg:w.heap[g]? = some (.cells cs t fr))
 (hu:P.underlying ty = some d) (hd:(match d with | .struct _ | .array _ _ => true | _ => false) = true) (hi:(P.info? ty).map (·.size) = some cs.size)
 (h:wpList P ops Q rest (a.put o.dst (.agg cs)) w):wpList P ops Q (o :: rest) a w :=
 BigFrame.wpList_want hw fun _ hK => wp_load_row ty x ho g hx t cs fr d hg hu hd hi (hK _ _ h)
theorem wpList_run_val_w {ops:Array Oper} {rest:List Oper} {op:Oper} {a:Act} {w:World} {Q:Exit → Act → World → Prop} (hw:Region.wanted op (yielded ops a.tmps) = true) (t:TypeId) (parts:Array (Nat × Operand)) (hop:op.op = .build t parts)
 {ps:Array (Nat × Value)} (hps:(parts.map fun (i,x) => (i,a.eval x)) = ps) {cells:Array Value} (hrun:(Instr.build t ps).run P w = .ok (.agg cells) w)
 (h:wpList P ops Q rest (a.put op.dst (.agg cells)) w):wpList P ops Q (op :: rest) a w:=by
 subst hps
 refine BigFrame.wpList_want hw fun _ hK => ?_
 have hh:=hK _ _ h
 unfold Oper.wp execOp
 simp only [hop,Sem.run_bind,hrun,Result.andThen_ok,Sem.run_pure]
 exact hh
end
theorem pis_g (w:World) {M:Array Value} {d:MsgD} (R:RepD w M d) (HK:KindsAt w) (k x:Nat) (hk:k < 256) (hx:x < 4294967296) (hkd:d.kind = (k:Int)) (hxd:d.xid = (x:Int)) (hm:MayM k d.ps) (hl:(bodyM k x d.ps).length ≤ 16384) {S:ByteArray} (hS:S = mkB (bodyM k x d.ps)) (hg:∀ m,decA [] 0 (S.extract 5 S.size).data.toList = (m,0) → GetOk m) :
 Calls Tryz.prog 14 #[.agg M,.string S] w fun e w' => e = .returned (.bool true) ∧ Wider w w':=by
 have sM:=R.size
 have g:=(Wider.refl w).alloc (.cells M 51)
 have hA:=heap_alloc_new w (.cells M 51)
 obtain ⟨W,hW⟩ : ∃ W,w.alloc (.cells M 51) = W:=⟨_,rfl⟩
 obtain ⟨B,hB⟩ : ∃ B,w.heap.size = B:=⟨_,rfl⟩
 rw [hW] at g hA
 rw [hB] at hA
 have hltW:B < W.heap.size:=(Array.getElem?_eq_some_iff.1 hA).1
 have hb:(bytsA (attrsG 1 (csM topD k) d.ps)).length < 1000000:=by
  unfold bodyM at hl
  rw [List.length_append] at hl
  omega
 have ze:=fun (W:World) (R:RepD W M d) (K:KindsAt W) => pencode_c W R K k x hk hx hkd hxd (fun _ => hb) (T:=S) (r:=0) (.inl ⟨hm,hl,hS,rfl⟩)
 have hSl:S.data.toList = bodyM k x d.ps:=by rw [hS,mkB_data]
 have hSs:S.size < 1000000:=by rw [size_data,hSl]; omega
 have hdm:decM S.data.toList = ((k,x,d.ps),0):=by rw [hSl]; exact decM_enc hm hx hl
 have zd:∀ (W:World),KindsAt W → Calls Tryz.prog 17 #[.string S] W fun e w' => DecR W w' e k x d.ps 0:=fun W K => (pdecode_g S W hSs K hg).mono fun e w' h => by rw [hdm] at h; exact h
 have zm:=fun (W:World) (R:RepD W M d) (K:KindsAt W) => pmay_c W R K k hk hkd (b:=true) ⟨fun _ => hm,fun _ => rfl⟩
 have zsm:=fun (W:World) (N:Array Value) (dN:MsgD) (Q:RepD W N dN) (h1:dN.kind = (k:Int)) (h2:dN.xid = (x:Int)) (h3:dN.ps = d.ps) (R:RepD W M d) => rsame_c W Q R (r:=true) ⟨fun _ => ⟨h1.trans hkd.symm,h2.trans hxd.symm,h3⟩,fun _ => rfl⟩
 have HR:=Lib.hid (R.on g)
 have HKK:=Lib.hid (HK.on g)
 have HG:=Lib.hid g
 clear hS hSl hl hm hb hdm hkd hxd R HK
 go_enter Tryz.func14,Tryz.ntmps14
 go_upto_region 1 with (fail)
 clear hW
 go_wp2_with (first
  | (with_reducible refine wpList_load_row rfl 51 (.tmp 2) rfl B rfl 51 M (0,0) _ hA Tryz.underlying51 rfl (by rw [sM]; kernel_rfl) ?_)
  | (go_at_call 16; (with_reducible refine (ze _ HR.out HKK.out).mono ?_); rintro e w1 ⟨rfl,g1⟩)
  | (go_at_call 17; (with_reducible refine (zd _ (HKK.out.on g1)).mono ?_); rintro e w2 ⟨N,dN,rfl,g2,RN,n1,n2,n3⟩; have hN:=heap_alloc_new w2 (.cells zM 51); have sN:=RN.here.size; have oN:=RN.here.one; have gA:=(Wider.refl w2).alloc (.cells zM 51); have hA2:=wide_blk hA ((g1.trans g2).trans gA))
  | (with_reducible refine wpList_store_row rfl 51 (.tmp 7) (.tmp 17) rfl w2.heap.size N rfl rfl 51 zM hN (by rw [sN]; kernel_rfl) (by rw [sN]; exact zM_size) oN ?_; obtain ⟨g5,h5⟩:=setRow_facts N hN; have hlt:=Nat.lt_of_lt_of_le hltW (wider_size (g1.trans g2)); have hA3:=but_blk hA2 g5 (Nat.ne_of_lt hlt); have g6:=g5.wider (gA) (by intro i m; simp only [List.mem_singleton] at m; omega); have HR6:=HR.out.on (g1.trans (g2.trans g6)); have RN6:=RN.here.on g6; have HK6:=HKK.out.on (g1.trans (g2.trans g6)); have HG6:=Lib.hid (HG.out.trans (g1.trans (g2.trans g6))))
  | (with_reducible refine wpList_load_row_w (by kernel_rfl) 51 (.tmp 7) rfl w2.heap.size rfl 51 N (0,0) _ h5 Tryz.underlying51 rfl (by rw [sN]; kernel_rfl) ?_)
  | (with_reducible refine wpList_load_row_w (by kernel_rfl) 51 (.tmp 2) rfl B rfl 51 M (0,0) _ hA3 Tryz.underlying51 rfl (by rw [sM]; kernel_rfl) ?_)
  | (go_at_call 22; (with_reducible refine (zsm _ N dN RN6 n1 n2 n3 HR6).mono ?_); rintro e w7 ⟨rfl,g7⟩; have hA7:=wide_blk hA3 g7)
  | (with_reducible refine wpList_load_row_w (by kernel_rfl) 51 (.tmp 2) rfl B rfl 51 M (0,0) _ hA7 Tryz.underlying51 rfl (by rw [sM]; kernel_rfl) ?_)
  | (go_at_call 18; (with_reducible refine (zm _ (HR6.on g7) (HK6.on g7)).mono ?_); rintro e w8 ⟨rfl,g8⟩))
 go_ret
 exact ⟨rfl,HG6.out.trans (g7.trans g8)⟩
theorem prefused_g (w:World) (HK:KindsAt w) (S:ByteArray) (hS:S.size < 1000000) {r:Nat} (hr:decM S.data.toList = ((0,0,zeroP),r)) (hg:∀ m,decA [] 0 (S.extract 5 S.size).data.toList = (m,0) → GetOk m) :
 Calls Tryz.prog 19 #[.string S,.int .i64 (r:Int)] w fun e w' => e = .returned (.bool true) ∧ Wider w w':=by
 have zd:∀ (W:World),KindsAt W → Calls Tryz.prog 17 #[.string S] W fun e w' => DecR W w' e 0 0 zeroP r:=fun W K => (pdecode_g S W hS K hg).mono fun e w' h => by rw [hr] at h; exact h
 have zsm:=fun (W:World) (N:Array Value) (dN:MsgD) (Q:RepD W N dN) (h1:dN.kind = ((0:Nat):Int)) (h2:dN.xid = ((0:Nat):Int)) (h3:dN.ps = zeroP) => rsame_c W Q (N:=zM) (e:=headD 0 0) (zM_repK 0 W).here (r:=true) ⟨fun _ => ⟨h1,h2,h3⟩,fun _ => rfl⟩
 have er:((r:Int) == (r:Int)) = true:=by simp
 clear hr
 go_enter Tryz.func19,Tryz.ntmps19
 go_wp2_with (first
  | (go_at_call 17; (with_reducible refine (zd _ HK).mono ?_); rintro e w2 ⟨N,dN,rfl,g2,RN,n1,n2,n3⟩; have hN:=heap_alloc_new w2 (.cells zM 51); have sN:=RN.here.size; have oN:=RN.here.one; have gA:=(Wider.refl w2).alloc (.cells zM 51))
  | (with_reducible refine wpList_store_row rfl 51 (.tmp 5) (.tmp 10) rfl w2.heap.size N rfl rfl 51 zM hN (by rw [sN]; kernel_rfl) (by rw [sN]; exact zM_size) oN ?_; obtain ⟨g5,h5⟩:=setRow_facts N hN; have g6:=g5.wider (gA) (by intro i m; simp only [List.mem_singleton] at m; omega); have RN6:=RN.here.on g6)
  | (with_reducible refine wpList_load_row_w (by kernel_rfl) 51 (.tmp 5) rfl w2.heap.size rfl 51 N (0,0) _ h5 Tryz.underlying51 rfl (by rw [sN]; kernel_rfl) ?_)
  | (with_reducible refine wpList_run_val_w (by kernel_rfl) 51 #[] rfl (ps:=#[]) rfl (build0 _) ?_)
  | (go_at_call 22; (with_reducible refine (zsm _ N dN RN6 n1 n2 n3).mono ?_); rintro e w7 ⟨rfl,g7⟩))
 go_ret
 exact ⟨rfl,g2.trans (g6.trans g7)⟩
def cells8 (l:List Nat):List Value:=l.map fun (t:Nat) => Value.int .u8 (t:Int)
theorem cells8_len (l:List Nat):(cells8 l).length = l.length:=by simp [cells8]
theorem own8_none (w:World) (b:Nat):w.ownsRow b 5 1 (.slice none 0 0) ([] : List Nat).length (cells8 []):=⟨rfl,.inl ⟨rfl,rfl⟩⟩
theorem own8_new (w:World) (l:List Nat) (hl:l.length < 100):(w.alloc (.cells (cells8 l).toArray 5)).ownsRow w.heap.size 5 1 (.slice (some ⟨w.heap.size,0,none⟩) l.length l.length) l.length (cells8 l) :=
 ⟨by rw [cells8_len,Nat.mul_one],.inr ⟨w.heap.size,l.length,(cells8 l).toArray,rfl,Nat.le_refl _,heap_alloc_new w _,Nat.le_refl _,Nat.le_trans (Nat.le_of_lt hl) (by decide),by simp [cells8_len],by rw [Nat.mul_one]; show (cells8 l).take l.length = cells8 l; exact List.take_of_length_le (by rw [cells8_len]; exact Nat.le_refl _)⟩⟩
def rhasGoal (w:World) (k:Nat):Prop:=Calls Tryz.prog 29 #[.int .u8 (k:Int)] w fun e w' => ∃ v,e = .returned v ∧ Wider w w' ∧ w'.ownsRow w.heap.size 5 1 v (hasL k).length (cells8 (hasL k))
theorem rhas_2 (w:World):rhasGoal w 2:=by
 unfold rhasGoal
 go_enter Tryz.func29,Tryz.ntmps29
 go_wp2
 go_ret
 exact ⟨.slice (some ⟨w.heap.size,0,none⟩) (hasL 2).length (hasL 2).length,rfl,(Wider.refl w).alloc _,own8_new w (hasL 2) (by decide)⟩
theorem rhas_3 (w:World):rhasGoal w 3:=by
 unfold rhasGoal
 go_enter Tryz.func29,Tryz.ntmps29
 go_wp2
 go_ret
 exact ⟨.slice (some ⟨w.heap.size,0,none⟩) (hasL 3).length (hasL 3).length,rfl,(Wider.refl w).alloc _,own8_new w (hasL 3) (by decide)⟩
theorem rhas_4 (w:World):rhasGoal w 4:=by
 unfold rhasGoal
 go_enter Tryz.func29,Tryz.ntmps29
 go_wp2
 go_ret
 exact ⟨.slice (some ⟨w.heap.size,0,none⟩) (hasL 4).length (hasL 4).length,rfl,(Wider.refl w).alloc _,own8_new w (hasL 4) (by decide)⟩
theorem rhas_6 (w:World):rhasGoal w 6:=by
 unfold rhasGoal
 go_enter Tryz.func29,Tryz.ntmps29
 go_wp2
 go_ret
 exact ⟨.slice (some ⟨w.heap.size,0,none⟩) (hasL 6).length (hasL 6).length,rfl,(Wider.refl w).alloc _,own8_new w (hasL 6) (by decide)⟩
theorem rhas_9 (w:World):rhasGoal w 9:=by
 unfold rhasGoal
 go_enter Tryz.func29,Tryz.ntmps29
 go_wp2
 go_ret
 exact ⟨.slice (some ⟨w.heap.size,0,none⟩) (hasL 9).length (hasL 9).length,rfl,(Wider.refl w).alloc _,own8_new w (hasL 9) (by decide)⟩
theorem rhas_10 (w:World):rhasGoal w 10:=by
 unfold rhasGoal
 go_enter Tryz.func29,Tryz.ntmps29
 go_wp2
 go_ret
 exact ⟨.slice (some ⟨w.heap.size,0,none⟩) (hasL 10).length (hasL 10).length,rfl,(Wider.refl w).alloc _,own8_new w (hasL 10) (by decide)⟩
theorem rhas_11 (w:World):rhasGoal w 11:=by
 unfold rhasGoal
 go_enter Tryz.func29,Tryz.ntmps29
 go_wp2
 go_ret
 exact ⟨.slice (some ⟨w.heap.size,0,none⟩) (hasL 11).length (hasL 11).length,rfl,(Wider.refl w).alloc _,own8_new w (hasL 11) (by decide)⟩
theorem rhas_12 (w:World):rhasGoal w 12:=by
 unfold rhasGoal
 go_enter Tryz.func29,Tryz.ntmps29
 go_wp2
 go_ret
 exact ⟨.slice (some ⟨w.heap.size,0,none⟩) (hasL 12).length (hasL 12).length,rfl,(Wider.refl w).alloc _,own8_new w (hasL 12) (by decide)⟩
theorem rhas_13 (w:World):rhasGoal w 13:=by
 unfold rhasGoal
 go_enter Tryz.func29,Tryz.ntmps29
 go_wp2
 go_ret
 exact ⟨.slice (some ⟨w.heap.size,0,none⟩) (hasL 13).length (hasL 13).length,rfl,(Wider.refl w).alloc _,own8_new w (hasL 13) (by decide)⟩
theorem rhas_14 (w:World):rhasGoal w 14:=by
 unfold rhasGoal
 go_enter Tryz.func29,Tryz.ntmps29
 go_wp2
 go_ret
 exact ⟨.slice (some ⟨w.heap.size,0,none⟩) (hasL 14).length (hasL 14).length,rfl,(Wider.refl w).alloc _,own8_new w (hasL 14) (by decide)⟩
theorem rhas_15 (w:World):rhasGoal w 15:=by
 unfold rhasGoal
 go_enter Tryz.func29,Tryz.ntmps29
 go_wp2
 go_ret
 exact ⟨.slice (some ⟨w.heap.size,0,none⟩) (hasL 15).length (hasL 15).length,rfl,(Wider.refl w).alloc _,own8_new w (hasL 15) (by decide)⟩
theorem rhas_16 (w:World):rhasGoal w 16:=by
 unfold rhasGoal
 go_enter Tryz.func29,Tryz.ntmps29
 go_wp2
 go_ret
 exact ⟨.slice (some ⟨w.heap.size,0,none⟩) (hasL 16).length (hasL 16).length,rfl,(Wider.refl w).alloc _,own8_new w (hasL 16) (by decide)⟩
theorem rhas_17 (w:World):rhasGoal w 17:=by
 unfold rhasGoal
 go_enter Tryz.func29,Tryz.ntmps29
 go_wp2
 go_ret
 exact ⟨.slice (some ⟨w.heap.size,0,none⟩) (hasL 17).length (hasL 17).length,rfl,(Wider.refl w).alloc _,own8_new w (hasL 17) (by decide)⟩
theorem rhas_18 (w:World):rhasGoal w 18:=by
 unfold rhasGoal
 go_enter Tryz.func29,Tryz.ntmps29
 go_wp2
 go_ret
 exact ⟨.slice (some ⟨w.heap.size,0,none⟩) (hasL 18).length (hasL 18).length,rfl,(Wider.refl w).alloc _,own8_new w (hasL 18) (by decide)⟩
theorem rhas_19 (w:World):rhasGoal w 19:=by
 unfold rhasGoal
 go_enter Tryz.func29,Tryz.ntmps29
 go_wp2
 go_ret
 exact ⟨.slice (some ⟨w.heap.size,0,none⟩) (hasL 19).length (hasL 19).length,rfl,(Wider.refl w).alloc _,own8_new w (hasL 19) (by decide)⟩
theorem rhas_20 (w:World):rhasGoal w 20:=by
 unfold rhasGoal
 go_enter Tryz.func29,Tryz.ntmps29
 go_wp2
 go_ret
 exact ⟨.slice (some ⟨w.heap.size,0,none⟩) (hasL 20).length (hasL 20).length,rfl,(Wider.refl w).alloc _,own8_new w (hasL 20) (by decide)⟩
theorem rhas_21 (w:World):rhasGoal w 21:=by
 unfold rhasGoal
 go_enter Tryz.func29,Tryz.ntmps29
 go_wp2
 go_ret
 exact ⟨.slice (some ⟨w.heap.size,0,none⟩) (hasL 21).length (hasL 21).length,rfl,(Wider.refl w).alloc _,own8_new w (hasL 21) (by decide)⟩
theorem rhas_22 (w:World):rhasGoal w 22:=by
 unfold rhasGoal
 go_enter Tryz.func29,Tryz.ntmps29
 go_wp2
 go_ret
 exact ⟨.slice (some ⟨w.heap.size,0,none⟩) (hasL 22).length (hasL 22).length,rfl,(Wider.refl w).alloc _,own8_new w (hasL 22) (by decide)⟩
theorem rhas_23 (w:World):rhasGoal w 23:=by
 unfold rhasGoal
 go_enter Tryz.func29,Tryz.ntmps29
 go_wp2
 go_ret
 exact ⟨.slice (some ⟨w.heap.size,0,none⟩) (hasL 23).length (hasL 23).length,rfl,(Wider.refl w).alloc _,own8_new w (hasL 23) (by decide)⟩
theorem rhas_24 (w:World):rhasGoal w 24:=by
 unfold rhasGoal
 go_enter Tryz.func29,Tryz.ntmps29
 go_wp2
 go_ret
 exact ⟨.slice (some ⟨w.heap.size,0,none⟩) (hasL 24).length (hasL 24).length,rfl,(Wider.refl w).alloc _,own8_new w (hasL 24) (by decide)⟩
theorem rhas_25 (w:World):rhasGoal w 25:=by
 unfold rhasGoal
 go_enter Tryz.func29,Tryz.ntmps29
 go_wp2
 go_ret
 exact ⟨.slice (some ⟨w.heap.size,0,none⟩) (hasL 25).length (hasL 25).length,rfl,(Wider.refl w).alloc _,own8_new w (hasL 25) (by decide)⟩
theorem rhas_26 (w:World):rhasGoal w 26:=by
 unfold rhasGoal
 go_enter Tryz.func29,Tryz.ntmps29
 go_wp2
 go_ret
 exact ⟨.slice (some ⟨w.heap.size,0,none⟩) (hasL 26).length (hasL 26).length,rfl,(Wider.refl w).alloc _,own8_new w (hasL 26) (by decide)⟩
theorem rhas_27 (w:World):rhasGoal w 27:=by
 unfold rhasGoal
 go_enter Tryz.func29,Tryz.ntmps29
 go_wp2
 go_ret
 exact ⟨.slice (some ⟨w.heap.size,0,none⟩) (hasL 27).length (hasL 27).length,rfl,(Wider.refl w).alloc _,own8_new w (hasL 27) (by decide)⟩
theorem rhas_28 (w:World):rhasGoal w 28:=by
 unfold rhasGoal
 go_enter Tryz.func29,Tryz.ntmps29
 go_wp2
 go_ret
 exact ⟨.slice (some ⟨w.heap.size,0,none⟩) (hasL 28).length (hasL 28).length,rfl,(Wider.refl w).alloc _,own8_new w (hasL 28) (by decide)⟩
theorem rhas_29 (w:World):rhasGoal w 29:=by
 unfold rhasGoal
 go_enter Tryz.func29,Tryz.ntmps29
 go_wp2
 go_ret
 exact ⟨.slice (some ⟨w.heap.size,0,none⟩) (hasL 29).length (hasL 29).length,rfl,(Wider.refl w).alloc _,own8_new w (hasL 29) (by decide)⟩
theorem rhas_30 (w:World):rhasGoal w 30:=by
 unfold rhasGoal
 go_enter Tryz.func29,Tryz.ntmps29
 go_wp2
 go_ret
 exact ⟨.slice (some ⟨w.heap.size,0,none⟩) (hasL 30).length (hasL 30).length,rfl,(Wider.refl w).alloc _,own8_new w (hasL 30) (by decide)⟩
theorem rhas_31 (w:World):rhasGoal w 31:=by
 unfold rhasGoal
 go_enter Tryz.func29,Tryz.ntmps29
 go_wp2
 go_ret
 exact ⟨.slice (some ⟨w.heap.size,0,none⟩) (hasL 31).length (hasL 31).length,rfl,(Wider.refl w).alloc _,own8_new w (hasL 31) (by decide)⟩
theorem rhas_32 (w:World):rhasGoal w 32:=by
 unfold rhasGoal
 go_enter Tryz.func29,Tryz.ntmps29
 go_wp2
 go_ret
 exact ⟨.slice (some ⟨w.heap.size,0,none⟩) (hasL 32).length (hasL 32).length,rfl,(Wider.refl w).alloc _,own8_new w (hasL 32) (by decide)⟩
theorem rhas_33 (w:World):rhasGoal w 33:=by
 unfold rhasGoal
 go_enter Tryz.func29,Tryz.ntmps29
 go_wp2
 go_ret
 exact ⟨.slice (some ⟨w.heap.size,0,none⟩) (hasL 33).length (hasL 33).length,rfl,(Wider.refl w).alloc _,own8_new w (hasL 33) (by decide)⟩
theorem rhas_34 (w:World):rhasGoal w 34:=by
 unfold rhasGoal
 go_enter Tryz.func29,Tryz.ntmps29
 go_wp2
 go_ret
 exact ⟨.slice (some ⟨w.heap.size,0,none⟩) (hasL 34).length (hasL 34).length,rfl,(Wider.refl w).alloc _,own8_new w (hasL 34) (by decide)⟩
theorem rhas_35 (w:World):rhasGoal w 35:=by
 unfold rhasGoal
 go_enter Tryz.func29,Tryz.ntmps29
 go_wp2
 go_ret
 exact ⟨.slice (some ⟨w.heap.size,0,none⟩) (hasL 35).length (hasL 35).length,rfl,(Wider.refl w).alloc _,own8_new w (hasL 35) (by decide)⟩
theorem rhas_37 (w:World):rhasGoal w 37:=by
 unfold rhasGoal
 go_enter Tryz.func29,Tryz.ntmps29
 go_wp2
 go_ret
 exact ⟨.slice (some ⟨w.heap.size,0,none⟩) (hasL 37).length (hasL 37).length,rfl,(Wider.refl w).alloc _,own8_new w (hasL 37) (by decide)⟩
theorem rhas_38 (w:World):rhasGoal w 38:=by
 unfold rhasGoal
 go_enter Tryz.func29,Tryz.ntmps29
 go_wp2
 go_ret
 exact ⟨.slice (some ⟨w.heap.size,0,none⟩) (hasL 38).length (hasL 38).length,rfl,(Wider.refl w).alloc _,own8_new w (hasL 38) (by decide)⟩
theorem rhas_39 (w:World):rhasGoal w 39:=by
 unfold rhasGoal
 go_enter Tryz.func29,Tryz.ntmps29
 go_wp2
 go_ret
 exact ⟨.slice (some ⟨w.heap.size,0,none⟩) (hasL 39).length (hasL 39).length,rfl,(Wider.refl w).alloc _,own8_new w (hasL 39) (by decide)⟩
theorem rhas_40 (w:World):rhasGoal w 40:=by
 unfold rhasGoal
 go_enter Tryz.func29,Tryz.ntmps29
 go_wp2
 go_ret
 exact ⟨.slice (some ⟨w.heap.size,0,none⟩) (hasL 40).length (hasL 40).length,rfl,(Wider.refl w).alloc _,own8_new w (hasL 40) (by decide)⟩
theorem rhas_41 (w:World):rhasGoal w 41:=by
 unfold rhasGoal
 go_enter Tryz.func29,Tryz.ntmps29
 go_wp2
 go_ret
 exact ⟨.slice (some ⟨w.heap.size,0,none⟩) (hasL 41).length (hasL 41).length,rfl,(Wider.refl w).alloc _,own8_new w (hasL 41) (by decide)⟩
theorem rhas_42 (w:World):rhasGoal w 42:=by
 unfold rhasGoal
 go_enter Tryz.func29,Tryz.ntmps29
 go_wp2
 go_ret
 exact ⟨.slice (some ⟨w.heap.size,0,none⟩) (hasL 42).length (hasL 42).length,rfl,(Wider.refl w).alloc _,own8_new w (hasL 42) (by decide)⟩
theorem rhas_44 (w:World):rhasGoal w 44:=by
 unfold rhasGoal
 go_enter Tryz.func29,Tryz.ntmps29
 go_wp2
 go_ret
 exact ⟨.slice (some ⟨w.heap.size,0,none⟩) (hasL 44).length (hasL 44).length,rfl,(Wider.refl w).alloc _,own8_new w (hasL 44) (by decide)⟩
theorem rhas_45 (w:World):rhasGoal w 45:=by
 unfold rhasGoal
 go_enter Tryz.func29,Tryz.ntmps29
 go_wp2
 go_ret
 exact ⟨.slice (some ⟨w.heap.size,0,none⟩) (hasL 45).length (hasL 45).length,rfl,(Wider.refl w).alloc _,own8_new w (hasL 45) (by decide)⟩
theorem rhas_46 (w:World):rhasGoal w 46:=by
 unfold rhasGoal
 go_enter Tryz.func29,Tryz.ntmps29
 go_wp2
 go_ret
 exact ⟨.slice (some ⟨w.heap.size,0,none⟩) (hasL 46).length (hasL 46).length,rfl,(Wider.refl w).alloc _,own8_new w (hasL 46) (by decide)⟩
theorem rhas_none (w:World) (k:Nat) (hk:k < 256) (h:hasL k = []):rhasGoal w k:=by
 have H:((k:Int) == 2) = false ∧ ((k:Int) == 3) = false ∧ ((k:Int) == 4) = false ∧ ((k:Int) == 6) = false ∧ ((k:Int) == 9) = false ∧ ((k:Int) == 10) = false ∧ ((k:Int) == 11) = false ∧ ((k:Int) == 12) = false ∧ ((k:Int) == 13) = false ∧ ((k:Int) == 14) = false ∧ ((k:Int) == 15) = false ∧ ((k:Int) == 16) = false ∧ ((k:Int) == 17) = false ∧ ((k:Int) == 18) = false ∧ ((k:Int) == 19) = false ∧ ((k:Int) == 20) = false ∧ ((k:Int) == 21) = false ∧ ((k:Int) == 22) = false ∧ ((k:Int) == 23) = false ∧ ((k:Int) == 24) = false ∧ ((k:Int) == 25) = false ∧ ((k:Int) == 26) = false ∧ ((k:Int) == 27) = false ∧ ((k:Int) == 28) = false ∧ ((k:Int) == 29) = false ∧ ((k:Int) == 30) = false ∧ ((k:Int) == 31) = false ∧ ((k:Int) == 32) = false ∧ ((k:Int) == 33) = false ∧ ((k:Int) == 34) = false ∧ ((k:Int) == 35) = false ∧ ((k:Int) == 37) = false ∧ ((k:Int) == 38) = false ∧ ((k:Int) == 39) = false ∧ ((k:Int) == 40) = false ∧ ((k:Int) == 41) = false ∧ ((k:Int) == 42) = false ∧ ((k:Int) == 44) = false ∧ ((k:Int) == 45) = false ∧ ((k:Int) == 46) = false:=by
  refine ⟨?_,?_,?_,?_,?_,?_,?_,?_,?_,?_,?_,?_,?_,?_,?_,?_,?_,?_,?_,?_,?_,?_,?_,?_,?_,?_,?_,?_,?_,?_,?_,?_,?_,?_,?_,?_,?_,?_,?_,?_⟩ <;> (rw [beq_eq_false_iff_ne]; intro e; obtain rfl:=Int.ofNat_inj.1 e; cases h)
 obtain ⟨h2,h3,h4,h6,h9,h10,h11,h12,h13,h14,h15,h16,h17,h18,h19,h20,h21,h22,h23,h24,h25,h26,h27,h28,h29,h30,h31,h32,h33,h34,h35,h37,h38,h39,h40,h41,h42,h44,h45,h46⟩:=H
 unfold rhasGoal
 rw [h]
 go_enter Tryz.func29,Tryz.ntmps29
 go_wp2
 go_ret
 exact ⟨.slice none 0 0,rfl,Wider.refl w,own8_none w _⟩
theorem rhas_c (w:World) (k:Nat) (hk:k < 256):rhasGoal w k:=by
 by_cases c:k < 47
 · match k,c with
   | 0,_ => exact rhas_none w 0 (by decide) rfl
   | 1,_ => exact rhas_none w 1 (by decide) rfl
   | 2,_ => exact rhas_2 w
   | 3,_ => exact rhas_3 w
   | 4,_ => exact rhas_4 w
   | 5,_ => exact rhas_none w 5 (by decide) rfl
   | 6,_ => exact rhas_6 w
   | 7,_ => exact rhas_none w 7 (by decide) rfl
   | 8,_ => exact rhas_none w 8 (by decide) rfl
   | 9,_ => exact rhas_9 w
   | 10,_ => exact rhas_10 w
   | 11,_ => exact rhas_11 w
   | 12,_ => exact rhas_12 w
   | 13,_ => exact rhas_13 w
   | 14,_ => exact rhas_14 w
   | 15,_ => exact rhas_15 w
   | 16,_ => exact rhas_16 w
   | 17,_ => exact rhas_17 w
   | 18,_ => exact rhas_18 w
   | 19,_ => exact rhas_19 w
   | 20,_ => exact rhas_20 w
   | 21,_ => exact rhas_21 w
   | 22,_ => exact rhas_22 w
   | 23,_ => exact rhas_23 w
   | 24,_ => exact rhas_24 w
   | 25,_ => exact rhas_25 w
   | 26,_ => exact rhas_26 w
   | 27,_ => exact rhas_27 w
   | 28,_ => exact rhas_28 w
   | 29,_ => exact rhas_29 w
   | 30,_ => exact rhas_30 w
   | 31,_ => exact rhas_31 w
   | 32,_ => exact rhas_32 w
   | 33,_ => exact rhas_33 w
   | 34,_ => exact rhas_34 w
   | 35,_ => exact rhas_35 w
   | 36,_ => exact rhas_none w 36 (by decide) rfl
   | 37,_ => exact rhas_37 w
   | 38,_ => exact rhas_38 w
   | 39,_ => exact rhas_39 w
   | 40,_ => exact rhas_40 w
   | 41,_ => exact rhas_41 w
   | 42,_ => exact rhas_42 w
   | 43,_ => exact rhas_none w 43 (by decide) rfl
   | 44,_ => exact rhas_44 w
   | 45,_ => exact rhas_45 w
   | 46,_ => exact rhas_46 w
   | k + 47,c => omega
 · exact rhas_none w k hk (hasL_none hk c)
theorem types_c (W:World) (A B:Option Addr) (n cap m cap2:Nat) (l l2:List (List Value)) (hA:RowAt W A 1 l) (hB:RowAt W B 1 l2) (hn:l.length = n) (hm:l2.length = m) (hn9:n < 1000000) (hm9:m < 1000000) (hs:∀ x ∈ l,(∃ v0:Int,x = [.int .u8 v0])) (hs2:∀ x ∈ l2,(∃ v0:Int,x = [.int .u8 v0])) {r:Bool} (hr:l = l2 ↔ r = true) :
 Calls Tryz.prog 28 #[.slice A n cap,.slice B m cap2] W fun e w' => e = .returned (.bool r) ∧ Wider W w':=by
 by_cases hl0:n = m
 · subst hl0
   have d0:((n:Int) != (n:Int)) = false:=bne_self_eq_false _
   have HN:=Lib.hid hn
   have HM:=Lib.hid hm
   have HS:=Lib.hid hs
   have HS2:=Lib.hid hs2
   have HR:=Lib.hid hr
   clear hs hs2 hn hm hr
   go_enter Tryz.func28,Tryz.ntmps28
   go_wp2
   go_loopw [5] (fun i wr => ∃ j:Nat,j ≤ n ∧ i = .int .i64 (j:Int) ∧ l.take j = l2.take j ∧ ∃ q:Nat,wr = World.drewN W q) (fun i _ => n - (intOf i).toNat)
   case atStart => exact ⟨0,by omega,by simp,rfl,0,rfl⟩
   case round =>
    obtain ⟨j,hj,rfl,hjt,q,rfl⟩:=hrel
    have hA2:=hA
    have hB2:=hB
    have HJ:=Lib.hid hjt
    clear hjt
    by_cases c:j < n
    · have j0:(0:Int) ≤ (j:Int):=by omega
      have j1:(j:Int) < (n:Int):=by omega
      obtain ⟨x,hx⟩ : ∃ x,l[j]? = some x:=⟨l[j]'(by have:=HN.out; omega),List.getElem?_eq_getElem _⟩
      obtain ⟨y,hy⟩ : ∃ y,l2[j]? = some y:=⟨l2[j]'(by have:=HM.out; omega),List.getElem?_eq_getElem _⟩
      cases A with
      | none => exact absurd (hA.none_ rfl) (by intro e; rw [e] at hx; simp at hx)
      | some A0 =>
        cases B with
        | none => exact absurd (hB.none_ rfl) (by intro e; rw [e] at hy; simp at hy)
        | some B0 =>
          obtain ⟨x0,rfl⟩:=HS.out x (List.mem_of_getElem? hx)
          obtain ⟨y0,rfl⟩:=HS2.out y (List.mem_of_getElem? hy)
          have kx:=row_cell hA2 hx
          have ky:=row_cell hB2 hy
          have cx0:=kx.1 _ rfl
          have cy0:=ky.1 _ rfl
          rw [Nat.mul_one] at cx0 cy0
          have HX:=Lib.hid hx
          have HY:=Lib.hid hy
          clear kx ky hx hy hA2 hB2
          by_cases z0:x0 = y0
          · subst z0
            have g0:(x0 != x0) = false:=bne_self_eq_false _
            go_wp2
            go_quiet (fail)
            go_wp2
            go_roundw
            case rel => exact ⟨j + 1,by omega,by go_num,take_one HJ.out HX.out HY.out,_,rfl⟩
            case measure => simp [intOf]; omega
          · have g0:(x0 != y0) = true:=by rw [bne_iff_ne]; exact z0
            obtain rfl:r = false:=by
             cases r with
             | false => rfl
             | true =>
               have h:=HR.out.2 rfl
               have h1:=HX.out
               rw [h,HY.out] at h1
               simp at h1
               exact absurd h1.symm z0
            clear z0
            go_wp2
            go_quiet (fail)
            go_wp2
            go_ret
            exact ⟨rfl,((Wider.refl W).drewN q).drewN nq⟩
    · have hl:l = l2:=by
       have h:=HJ.out
       rw [List.take_of_length_le (by have:=HN.out; omega),List.take_of_length_le (by have:=HM.out; omega)] at h
       exact h
      obtain rfl:r = true:=HR.out.1 hl
      have i1:¬ (j:Int) < (n:Int):=by omega
      clear HR hl
      go_wp2
      go_ret
      exact ⟨rfl,(Wider.refl W).drewN q⟩
 · have d0:((n:Int) != (m:Int)) = true:=by rw [bne_iff_ne]; omega
   obtain rfl:r = false:=by
    cases r with
    | false => rfl
    | true => exact absurd (by rw [← hn,← hm,hr.2 rfl]) hl0
   clear hr
   go_enter Tryz.func28,Tryz.ntmps28
   go_wp2
   go_ret
   exact ⟨rfl,Wider.refl W⟩
abbrev ks8:List IntKind:=[.u8]
def L8 (l:List Nat):List (List Int):=l.map fun (t:Nat) => [(t:Int)]
theorem cells8_K (l:List Nat):cells8 l = cellsK ks8 (L8 l):=by
 induction l with
 | nil => rfl
 | cons t l ih => show Value.int .u8 (t:Int) :: cells8 l = _; rw [ih]; rfl
theorem own8_row {w:World} {b:Nat} {v:Value} {l:List Nat} (h:w.ownsRow b 5 1 v l.length (cells8 l)):∃ A cap,v = .slice A l.length cap ∧ RowAt w A 1 (rowsK ks8 (L8 l)):=by
 have hs:∃ A cap,v = .slice A l.length cap:=by
  rcases h.2 with ⟨e,q⟩ | ⟨g,cap,cur,e,_⟩
  · exact ⟨none,0,by rw [e,q]⟩
  · exact ⟨_,cap,e⟩
 obtain ⟨A,cap,rfl⟩:=hs
 rw [cells8_K] at h
 exact ⟨A,cap,rfl,rowK_own (ks:=ks8) (L:=L8 l) rfl (by decide) (by simp [L8]) (fun x hx => by obtain ⟨t,_,rfl⟩:=List.mem_map.1 hx; rfl) h⟩
theorem row8_at {w:World} {A:Option Addr} {l:List Nat} (h:RowAt w A 1 (rowsK ks8 (L8 l))) {j t:Nat} (hj:l[j]? = some t):∃ a,A = some a ∧ w.cell? (a.add j) = some (.int .u8 (t:Int)):=by
 have hx:(rowsK ks8 (L8 l))[j]? = some [.int .u8 (t:Int)]:=by
  unfold rowsK L8
  rw [List.getElem?_map,List.getElem?_map,hj]; rfl
 cases A with
 | none => rw [h.none_ rfl] at hx; simp at hx
 | some a =>
   refine ⟨a,rfl,?_⟩
   have q:=(row_cell h hx).1 _ rfl
   rwa [Nat.mul_one] at q
theorem hasL_short:((List.range 256).all fun k => decide ((hasL k).length < 4) && (hasL k).all (fun t => decide (t < 18))) = true:=by kernel_rfl
theorem hasL_len {k:Nat} (hk:k < 256):(hasL k).length < 4:=by
 have h:=List.all_eq_true.1 hasL_short k (List.mem_range.2 hk)
 rw [Bool.and_eq_true,decide_eq_true_eq] at h
 exact h.1
theorem of_c (w:World) (k t:Nat) (hk:k < 256) (ht:t < 256) {r:Bool} (hr:r = decide (t ∈ hasL k)) :
 Calls Tryz.prog 42 #[.int .u8 (k:Int),.int .u8 (t:Int)] w fun e w' => e = .returned (.bool r) ∧ Wider w w':=by
 have zh:=fun W:World => rhas_c W k hk
 unfold rhasGoal at zh
 have h4:=hasL_len hk
 obtain ⟨l,hl⟩ : ∃ l,hasL k = l:=⟨_,rfl⟩
 rw [hl] at zh h4 hr
 clear hl
 obtain ⟨n,hn⟩ : ∃ n,l.length = n:=⟨_,rfl⟩
 have HR:=Lib.hid hr
 have HN:=Lib.hid hn
 clear hr
 go_enter Tryz.func42,Tryz.ntmps42
 go_upto_region 2 with (first | (go_at_call 29; (refine (zh _).mono ?_); rintro e wN ⟨v,rfl,gN,ho⟩))
 obtain ⟨A,cap,rfl,hA⟩:=own8_row ho
 rw [hn] at h4 ⊢
 clear ho hn zh
 go_wp2
 go_loopw [6] (fun i wr => ∃ j:Nat,j ≤ n ∧ i = .int .i64 (j:Int) ∧ (∀ x,x < j → l[x]? ≠ some t) ∧ wr = wN) (fun i _ => n - (intOf i).toNat)
 case atStart => exact ⟨0,by omega,by simp,fun x hx => absurd hx (Nat.not_lt_zero _),rfl⟩
 case round =>
  obtain ⟨j,hj,rfl,hno,rfl⟩:=hrel
  have HO:=Lib.hid hno
  clear hno
  by_cases c:j < n
  · have j0:(0:Int) ≤ (j:Int):=by omega
    have j1:(j:Int) < (n:Int):=by omega
    obtain ⟨x,hx⟩ : ∃ x,l[j]? = some x:=⟨l[j]'(by have:=HN.out; omega),List.getElem?_eq_getElem _⟩
    obtain ⟨a,rfl,hc⟩:=row8_at hA hx
    have HX:=Lib.hid hx
    clear hx
    by_cases z:x = t
    · subst z
      obtain rfl:r = true:=by rw [HR.out,decide_eq_true_eq]; exact List.mem_of_getElem? HX.out
      have g0:((x:Int) == (x:Int)) = true:=beq_self_eq_true _
      go_wp2
      go_ret
      exact ⟨rfl,gN⟩
    · have g0:((x:Int) == (t:Int)) = false:=by rw [beq_eq_false_iff_ne]; omega
      clear z
      go_wp2
      go_roundw
      case rel => exact ⟨j + 1,by omega,by go_num,fun y hy e => by
       rcases Nat.lt_or_eq_of_le (Nat.le_of_lt_succ hy) with q | q
       · exact HO.out y q e
       · subst q
         rw [HX.out] at e
         injection e with e
         subst e
         simp at g0,trivial⟩
      case measure => simp [intOf]; omega
  · have j1:¬ (j:Int) < (n:Int):=by omega
    obtain rfl:r = false:=by
     rw [HR.out,decide_eq_false_iff_not]
     intro e
     obtain ⟨y,hy⟩:=List.getElem?_of_mem e
     exact HO.out y (by have:=(List.getElem?_eq_some_iff.1 hy).1; have:=HN.out; omega) hy
    clear HR
    go_wp2
    go_ret
    exact ⟨rfl,gN⟩
end Go.Proofs.YtoopdhgmdjienaaGreatDoor
