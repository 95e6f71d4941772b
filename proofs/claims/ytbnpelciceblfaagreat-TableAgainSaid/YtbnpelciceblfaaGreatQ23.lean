/- ZEngC ZEngD -/
import Derived.Test.YtbnpelciceblfaaGreatQ22
namespace Go.Proofs.YtbnpelciceblfaaGreat
set_option linter.unusedVariables false
open Go.ChangeShapes Go.WideShapes Go.ChangeAt Go.RowKit Go.Joins
set_option maxHeartbeats 64000000
def Ent11 (w:World) (B:Nat) (tb:Int) (key oth:ByteArray) (ln pr bk:Int) (A:Option Addr) (n c:Nat) (idle hard ck:Int) (tl:Bool):Prop :=
 w.cell? ⟨B,0,none⟩ = some (.int .i64 tb) ∧ w.cell? ⟨B,1,none⟩ = some (.string key) ∧ w.cell? ⟨B,2,none⟩ = some (.string oth) ∧ w.cell? ⟨B,3,none⟩ = some (.int .i64 ln) ∧ w.cell? ⟨B,4,none⟩ = some (.int .i64 pr) ∧ w.cell? ⟨B,5,none⟩ = some (.int .i64 bk) ∧ w.cell? ⟨B,6,none⟩ = some (.slice A n c) ∧ w.cell? ⟨B,7,none⟩ = some (.int .i64 idle) ∧ w.cell? ⟨B,8,none⟩ = some (.int .i64 hard) ∧ w.cell? ⟨B,9,none⟩ = some (.int .u64 ck) ∧ w.cell? ⟨B,10,none⟩ = some (.bool tl)
theorem Ent11.on {V w:World} {B:Nat} {tb:Int} {key oth:ByteArray} {ln pr bk:Int} {A:Option Addr} {n c:Nat} {idle hard ck:Int} {tl:Bool} (h:Ent11 V B tb key oth ln pr bk A n c idle hard ck tl) (g:Wider V w):Ent11 w B tb key oth ln pr bk A n c idle hard ck tl:=by
 obtain ⟨a0,a1,a2,a3,a4,a5,a6,a7,a8,a9,a10⟩:=h
 exact ⟨wkeep g a0,wkeep g a1,wkeep g a2,wkeep g a3,wkeep g a4,wkeep g a5,wkeep g a6,wkeep g a7,wkeep g a8,wkeep g a9,wkeep g a10⟩
theorem ent11_box (w:World) (tb:Int) (key oth:ByteArray) (ln pr bk:Int) (A:Option Addr) (n c:Nat) (idle hard ck:Int) (tl:Bool):Ent11 (w.alloc (.cells #[.int .i64 tb,.string key,.string oth,.int .i64 ln,.int .i64 pr,.int .i64 bk,.slice A n c,.int .i64 idle,.int .i64 hard,.int .u64 ck,.bool tl] 26)) w.heap.size tb key oth ln pr bk A n c idle hard ck tl:=by
 refine ⟨?_,?_,?_,?_,?_,?_,?_,?_,?_,?_,?_⟩ <;> (rw [World.cell?_alloc_new]; rfl)
theorem ent11_box2 (w:World) (C:Array Value) (t:TypeId) (tb:Int) (key oth:ByteArray) (ln pr bk:Int) (A:Option Addr) (n c:Nat) (idle hard ck:Int) (tl:Bool):Ent11 ((w.alloc (.cells C t)).alloc (.cells #[.int .i64 tb,.string key,.string oth,.int .i64 ln,.int .i64 pr,.int .i64 bk,.slice A n c,.int .i64 idle,.int .i64 hard,.int .u64 ck,.bool tl] 26)) (w.heap.size + 1) tb key oth ln pr bk A n c idle hard ck tl:=by
 have h:=ent11_box (w.alloc (.cells C t)) tb key oth ln pr bk A n c idle hard ck tl
 have ez:(w.alloc (.cells C t)).heap.size = w.heap.size + 1:=by simp
 rwa [ez] at h
theorem zitem_c (x:EntV) (A:Option Addr) (n c:Nat) (k:Int) (w:World):Calls Tryz.prog 135 #[entV x (.slice A n c),.int .i64 k] w fun e w' => e = .returned (.agg #[.string x.key,.string x.oth,.int .i64 x.pr,.int .i64 k]) ∧ Wider w w':=by
 obtain ⟨tb,key,oth,ln,pr,bk,args,idle,hard,ck,tl⟩:=x
 show Calls Tryz.prog 135 #[.agg #[.int .i64 tb,.string key,.string oth,.int .i64 ln,.int .i64 pr,.int .i64 bk,.slice A n c,.int .i64 idle,.int .i64 hard,.int .u64 ck,.bool tl],.int .i64 k] w fun e w' => e = .returned (.agg #[.string key,.string oth,.int .i64 pr,.int .i64 k]) ∧ Wider w w'
 have H:Own w w []:=Own.nil (Wider.refl w)
 have H1:=(H.blk #[.int .i64 tb,.string key,.string oth,.int .i64 ln,.int .i64 pr,.int .i64 bk,.slice A n c,.int .i64 idle,.int .i64 hard,.int .u64 ck,.bool tl] 26).blk #[.string ⟨#[]⟩,.string ⟨#[]⟩,.int .i64 0,.int .i64 0] 193
 have H2:=((((H1.store 0 (.string key)).store 1 (.string oth)).store 2 (.int .i64 pr)).store 3 (.int .i64 k)).wider
 go_enter Tryz.func135,Tryz.ntmps135
 go_wp2
 simp [bodyPost,results,Tryz.results135,go_sem]
 exact ((Wider.refl w).alloc _).alloc _
set_option maxRecDepth 20000 in
theorem zfits3_c (Z:Nat) (x:EntV) (hk:x.key.size < 100000) (A:Option Addr) (n c:Nat) {r:Bool} (hr:decide (Fit3 x.key x.oth x.ln x.pr) = r) (w:World) :
 Calls Tryz.prog 129 #[.agg #[.pointer (some ⟨Z,0,none⟩)],entV x (.slice A n c)] w fun e w' => e = .returned (.bool r) ∧ Wider w w':=by
 have zi:=zitem_c x A n c 0
 obtain ⟨tb,key,oth,ln,pr,bk,args,idle,hard,ck,tl⟩:=x
 have hk:key.size < 100000:=hk
 have hr:decide (ln = 0 ∧ (0 ≤ pr ∧ pr ≤ 2147483647) ∧ FormN ⟨key,oth,pr,0⟩) = r:=hr
 have zi:∀ w,Calls Tryz.prog 135 #[.agg #[.int .i64 tb,.string key,.string oth,.int .i64 ln,.int .i64 pr,.int .i64 bk,.slice A n c,.int .i64 idle,.int .i64 hard,.int .u64 ck,.bool tl],.int .i64 0] w fun e w' => e = .returned (.agg #[.string key,.string oth,.int .i64 pr,.int .i64 0]) ∧ Wider w w':=zi
 show Calls Tryz.prog 129 #[.agg #[.pointer (some ⟨Z,0,none⟩)],.agg #[.int .i64 tb,.string key,.string oth,.int .i64 ln,.int .i64 pr,.int .i64 bk,.slice A n c,.int .i64 idle,.int .i64 hard,.int .u64 ck,.bool tl]] w _
 have E0:=ent11_box2 w #[.pointer (some ⟨Z,0,none⟩)] 110 tb key oth ln pr bk A n c idle hard ck tl
 have G:=((Wider.refl w).alloc (.cells #[.pointer (some ⟨Z,0,none⟩)] 110)).alloc (.cells #[.int .i64 tb,.string key,.string oth,.int .i64 ln,.int .i64 pr,.int .i64 bk,.slice A n c,.int .i64 idle,.int .i64 hard,.int .u64 ck,.bool tl] 26)
 obtain ⟨W,hW⟩ : ∃ W,((w.alloc (.cells #[.pointer (some ⟨Z,0,none⟩)] 110)).alloc (.cells #[.int .i64 tb,.string key,.string oth,.int .i64 ln,.int .i64 pr,.int .i64 bk,.slice A n c,.int .i64 idle,.int .i64 hard,.int .u64 ck,.bool tl] 26)) = W:=⟨_,rfl⟩
 have HW:=Lib.hid hW
 rw [hW] at E0 G
 have HE:=Lib.hid E0
 obtain ⟨x0,x1,x2,x3,x4,x5,x6,x7,x8,x9,x10⟩:=E0
 clear hW
 by_cases h1:ln = 0
 · subst h1
   by_cases h3:0 ≤ pr ∧ pr ≤ 2147483647
   · have zb:=zbetween_c pr 0 2147483647 (decide_eq_true h3)
     have zm:=umatch_c ⟨key,oth,pr,0⟩ key (by omega) (b:=r) (by
      rw [← hr]
      show _ ↔ FormN ⟨key,oth,pr,0⟩
      simp [h3])
     have zm:∀ w,Calls Tryz.prog 134 #[.agg #[.string key,.string oth,.int .i64 pr,.int .i64 0],.string key] w fun e w' => e = .returned (.bool r) ∧ Wider w w':=zm
     clear hr h3
     go_enter Tryz.func129,Tryz.ntmps129
     go_upto_region 1 with (fail)
     try rw [HW.out]
     obtain ⟨B0,hB0⟩ : ∃ B,w.heap.size + 1 = B:=⟨_,rfl⟩
     rw [hB0] at x0 x1 x2 x3 x4 x5 x6 x7 x8 x9 x10 HE
     try rw [hB0]
     clear hB0
     have zz:=fun (y:After W) => HE.out.on y.h
     obtain ⟨z0,z1,z2,z3,z4,z5,z6,z7,z8,z9,z10⟩ : (∀ y:After W,y.w.cell? ⟨B0,0,none⟩ = some (.int .i64 tb)) ∧ (∀ y:After W,y.w.cell? ⟨B0,1,none⟩ = some (.string key)) ∧ (∀ y:After W,y.w.cell? ⟨B0,2,none⟩ = some (.string oth)) ∧ (∀ y:After W,y.w.cell? ⟨B0,3,none⟩ = some (.int .i64 0)) ∧ (∀ y:After W,y.w.cell? ⟨B0,4,none⟩ = some (.int .i64 pr)) ∧ (∀ y:After W,y.w.cell? ⟨B0,5,none⟩ = some (.int .i64 bk)) ∧ (∀ y:After W,y.w.cell? ⟨B0,6,none⟩ = some (.slice A n c)) ∧ (∀ y:After W,y.w.cell? ⟨B0,7,none⟩ = some (.int .i64 idle)) ∧ (∀ y:After W,y.w.cell? ⟨B0,8,none⟩ = some (.int .i64 hard)) ∧ (∀ y:After W,y.w.cell? ⟨B0,9,none⟩ = some (.int .u64 ck)) ∧ (∀ y:After W,y.w.cell? ⟨B0,10,none⟩ = some (.bool tl)):=⟨fun y => (zz y).1,fun y => (zz y).2.1,fun y => (zz y).2.2.1,fun y => (zz y).2.2.2.1,fun y => (zz y).2.2.2.2.1,fun y => (zz y).2.2.2.2.2.1,fun y => (zz y).2.2.2.2.2.2.1,fun y => (zz y).2.2.2.2.2.2.2.1,fun y => (zz y).2.2.2.2.2.2.2.2.1,fun y => (zz y).2.2.2.2.2.2.2.2.2.1,fun y => (zz y).2.2.2.2.2.2.2.2.2.2⟩
     clear x0 x1 x2 x3 x4 x5 x6 x7 x8 x9 x10 HE
     refine wp_region_after (by kernel_rfl) (by kernel_rfl) (Wider.refl W) ?_
     repeat (go_big_quiet_step (first
      | (go_at_call 38; exact quiet_after (zb _))
      | (go_at_call 135; exact quiet_after (zi _))
      | (go_at_call 134; exact quiet_after (zm _))))
     refine wpQuiet_nil ?_
     rintro _ ⟨y,rfl⟩
     have G2:=G.trans y.h
     go_wp2
     go_ret
     exact ⟨rfl,G2⟩
   · have zb:=zbetween_c pr 0 2147483647 (decide_eq_false h3)
     obtain rfl:r = false:=by rw [← hr]; exact decide_eq_false fun q => h3 q.2.1
     clear hr h3
     go_enter Tryz.func129,Tryz.ntmps129
     go_upto_region 1 with (fail)
     try rw [HW.out]
     obtain ⟨B0,hB0⟩ : ∃ B,w.heap.size + 1 = B:=⟨_,rfl⟩
     rw [hB0] at x0 x1 x2 x3 x4 x5 x6 x7 x8 x9 x10 HE
     try rw [hB0]
     clear hB0
     have zz:=fun (y:After W) => HE.out.on y.h
     obtain ⟨z0,z1,z2,z3,z4,z5,z6,z7,z8,z9,z10⟩ : (∀ y:After W,y.w.cell? ⟨B0,0,none⟩ = some (.int .i64 tb)) ∧ (∀ y:After W,y.w.cell? ⟨B0,1,none⟩ = some (.string key)) ∧ (∀ y:After W,y.w.cell? ⟨B0,2,none⟩ = some (.string oth)) ∧ (∀ y:After W,y.w.cell? ⟨B0,3,none⟩ = some (.int .i64 0)) ∧ (∀ y:After W,y.w.cell? ⟨B0,4,none⟩ = some (.int .i64 pr)) ∧ (∀ y:After W,y.w.cell? ⟨B0,5,none⟩ = some (.int .i64 bk)) ∧ (∀ y:After W,y.w.cell? ⟨B0,6,none⟩ = some (.slice A n c)) ∧ (∀ y:After W,y.w.cell? ⟨B0,7,none⟩ = some (.int .i64 idle)) ∧ (∀ y:After W,y.w.cell? ⟨B0,8,none⟩ = some (.int .i64 hard)) ∧ (∀ y:After W,y.w.cell? ⟨B0,9,none⟩ = some (.int .u64 ck)) ∧ (∀ y:After W,y.w.cell? ⟨B0,10,none⟩ = some (.bool tl)):=⟨fun y => (zz y).1,fun y => (zz y).2.1,fun y => (zz y).2.2.1,fun y => (zz y).2.2.2.1,fun y => (zz y).2.2.2.2.1,fun y => (zz y).2.2.2.2.2.1,fun y => (zz y).2.2.2.2.2.2.1,fun y => (zz y).2.2.2.2.2.2.2.1,fun y => (zz y).2.2.2.2.2.2.2.2.1,fun y => (zz y).2.2.2.2.2.2.2.2.2.1,fun y => (zz y).2.2.2.2.2.2.2.2.2.2⟩
     clear x0 x1 x2 x3 x4 x5 x6 x7 x8 x9 x10 HE
     refine wp_region_after (by kernel_rfl) (by kernel_rfl) (Wider.refl W) ?_
     repeat (go_big_quiet_step (first
      | (go_at_call 38; exact quiet_after (zb _))))
     refine wpQuiet_nil ?_
     rintro _ ⟨y,rfl⟩
     have G2:=G.trans y.h
     go_wp2
     go_ret
     exact ⟨rfl,G2⟩
 · obtain rfl:r = false:=by rw [← hr]; exact decide_eq_false fun q => h1 q.1
   have e3:(ln == 0) = false:=by rw [beq_eq_false_iff_ne]; exact h1
   clear hr
   go_enter Tryz.func129,Tryz.ntmps129
   go_upto_region 1 with (fail)
   try rw [HW.out]
   obtain ⟨B0,hB0⟩ : ∃ B,w.heap.size + 1 = B:=⟨_,rfl⟩
   rw [hB0] at x0 x1 x2 x3 x4 x5 x6 x7 x8 x9 x10 HE
   try rw [hB0]
   clear hB0
   have zz:=fun (y:After W) => HE.out.on y.h
   obtain ⟨z0,z1,z2,z3,z4,z5,z6,z7,z8,z9,z10⟩ : (∀ y:After W,y.w.cell? ⟨B0,0,none⟩ = some (.int .i64 tb)) ∧ (∀ y:After W,y.w.cell? ⟨B0,1,none⟩ = some (.string key)) ∧ (∀ y:After W,y.w.cell? ⟨B0,2,none⟩ = some (.string oth)) ∧ (∀ y:After W,y.w.cell? ⟨B0,3,none⟩ = some (.int .i64 ln)) ∧ (∀ y:After W,y.w.cell? ⟨B0,4,none⟩ = some (.int .i64 pr)) ∧ (∀ y:After W,y.w.cell? ⟨B0,5,none⟩ = some (.int .i64 bk)) ∧ (∀ y:After W,y.w.cell? ⟨B0,6,none⟩ = some (.slice A n c)) ∧ (∀ y:After W,y.w.cell? ⟨B0,7,none⟩ = some (.int .i64 idle)) ∧ (∀ y:After W,y.w.cell? ⟨B0,8,none⟩ = some (.int .i64 hard)) ∧ (∀ y:After W,y.w.cell? ⟨B0,9,none⟩ = some (.int .u64 ck)) ∧ (∀ y:After W,y.w.cell? ⟨B0,10,none⟩ = some (.bool tl)):=⟨fun y => (zz y).1,fun y => (zz y).2.1,fun y => (zz y).2.2.1,fun y => (zz y).2.2.2.1,fun y => (zz y).2.2.2.2.1,fun y => (zz y).2.2.2.2.2.1,fun y => (zz y).2.2.2.2.2.2.1,fun y => (zz y).2.2.2.2.2.2.2.1,fun y => (zz y).2.2.2.2.2.2.2.2.1,fun y => (zz y).2.2.2.2.2.2.2.2.2.1,fun y => (zz y).2.2.2.2.2.2.2.2.2.2⟩
   clear x0 x1 x2 x3 x4 x5 x6 x7 x8 x9 x10 HE
   refine wp_region_after (by kernel_rfl) (by kernel_rfl) (Wider.refl W) ?_
   repeat (go_big_quiet_step (fail))
   refine wpQuiet_nil ?_
   rintro _ ⟨y,rfl⟩
   have G2:=G.trans y.h
   go_wp2
   go_ret
   exact ⟨rfl,G2⟩
theorem findF_mem {key:ByteArray} : ∀ (L:List ItN) (o:Option ItN) (x:ItN),L.foldl (stepF key) o = some x → x ∈ L ∨ o = some x
 | [],o,x,h => .inr h
 | y :: L,o,x,h => by
   rcases findF_mem L (stepF key o y) x h with k | k
   · exact .inl (.tail _ k)
   · unfold stepF at k
     split at k
     · split at k
       · exact .inl (by rw [← Option.some.inj k]; exact .head _)
       · split at k
         · exact .inl (by rw [← Option.some.inj k]; exact .head _)
         · exact .inr k
     · exact .inr k
def Find3 (M:List KP) (v:Int) (b:Bool):Prop:=b = true → ∃ m ∈ M,v = (m.2:Int)
theorem form3 {ws:List Nat} {x:EntV} (h:FitX 3 ws x) (v:Int):FormN ⟨x.key,x.oth,x.pr,v⟩:=(h.2.2.2.1 rfl).2.2
theorem size3 {ws:List Nat} {x:EntV} (h:FitX 3 ws x):x.oth.size = x.key.size:=(form3 h 0).1.symm
set_option maxRecDepth 20000 in
theorem zput3_c {V w:World} {R:List Thing} {Z N:Nat} {M:List KP} {ws:List Nat} (H:SetIs V w R Z (M.map toN) N) (hN:N < 99990) (f:EngF 3 ws M) {x:EntV} (hx:FitX 3 ws x) (hn:∀ m ∈ M,¬ OneK m.1 x) (A:Option Addr) (n c:Nat) (k:Nat) {kk:Int} (hk:(k:Int) = kk) :
 Calls Tryz.prog 130 #[.agg #[.pointer (some ⟨Z,0,none⟩)],entV x (.slice A n c),.int .i64 kk] w fun e w' => e = .returned (.tuple #[]) ∧ SetIs V w' R Z ((M ++ [(x,k)]).map toN) (N + 1):=by
 subst hk
 have hks:x.key.size < 1000000:=by have:=hx.1; have:=f.w32; omega
 have hms:x.oth.size < 1000000:=by rw [size3 hx]; exact hks
 have e2:butL (M.map toN) ⟨x.key,x.oth,x.pr,(k:Int)⟩ ++ [⟨x.key,x.oth,x.pr,(k:Int)⟩] = (M ++ [(x,k)]).map toN:=by
  rw [butL_toN f.fit hx,butM_none hn,List.map_append]; rfl
 have zp:=fun (W:World) (H1:SetIs V W R Z (M.map toN) N) => sput_o H1 hN (form3 hx (k:Int)) hks hms e2
 clear e2
 have zi:=zitem_c x A n c (k:Int)
 obtain ⟨L2,hL2⟩ : ∃ L2,(M ++ [(x,k)]).map toN = L2:=⟨_,rfl⟩
 rw [hL2] at zp
 rw [hL2]
 clear hx hn f hks hms hL2
 obtain ⟨tb,key,oth,ln,pr,bk,args,idle,hard,ck,tl⟩:=x
 have zi:∀ w,Calls Tryz.prog 135 #[.agg #[.int .i64 tb,.string key,.string oth,.int .i64 ln,.int .i64 pr,.int .i64 bk,.slice A n c,.int .i64 idle,.int .i64 hard,.int .u64 ck,.bool tl],.int .i64 (k:Int)] w fun e w' => e = .returned (.agg #[.string key,.string oth,.int .i64 pr,.int .i64 (k:Int)]) ∧ Wider w w':=zi
 show Calls Tryz.prog 130 #[.agg #[.pointer (some ⟨Z,0,none⟩)],.agg #[.int .i64 tb,.string key,.string oth,.int .i64 ln,.int .i64 pr,.int .i64 bk,.slice A n c,.int .i64 idle,.int .i64 hard,.int .u64 ck,.bool tl],.int .i64 (k:Int)] w _
 have H1:=H.quiet (((Wider.refl w).alloc (.cells #[.pointer (some ⟨Z,0,none⟩)] 110)).alloc (.cells #[.int .i64 tb,.string key,.string oth,.int .i64 ln,.int .i64 pr,.int .i64 bk,.slice A n c,.int .i64 idle,.int .i64 hard,.int .u64 ck,.bool tl] 26))
 have K1:=H1.quiet (Wider.refl _).drew
 have E0:=ent11_box2 w #[.pointer (some ⟨Z,0,none⟩)] 110 tb key oth ln pr bk A n c idle hard ck tl
 have p0:((w.alloc (.cells #[.pointer (some ⟨Z,0,none⟩)] 110)).alloc (.cells #[.int .i64 tb,.string key,.string oth,.int .i64 ln,.int .i64 pr,.int .i64 bk,.slice A n c,.int .i64 idle,.int .i64 hard,.int .u64 ck,.bool tl] 26)).cell? ⟨w.heap.size,0,none⟩ = some (.pointer (some ⟨Z,0,none⟩)):=wkeep ((Wider.refl _).alloc _) (by rw [World.cell?_alloc_new]; rfl)
 obtain ⟨x0,x1,x2,x3,x4,x5,x6,x7,x8,x9,x10⟩:=E0
 clear H
 go_enter Tryz.func130,Tryz.ntmps130
 go_upto_region 1 with (fail)
 obtain ⟨W,hW⟩ : ∃ W,((w.alloc (.cells #[.pointer (some ⟨Z,0,none⟩)] 110)).alloc (.cells #[.int .i64 tb,.string key,.string oth,.int .i64 ln,.int .i64 pr,.int .i64 bk,.slice A n c,.int .i64 idle,.int .i64 hard,.int .u64 ck,.bool tl] 26)) = W:=⟨_,rfl⟩
 obtain ⟨B0,hB0⟩ : ∃ B,w.heap.size = B:=⟨_,rfl⟩
 rw [hW] at H1 K1 p0 x0 x1 x2 x3 x4 x5 x6 x7 x8 x9 x10
 rw [hB0] at p0 x0 x1 x2 x3 x4 x5 x6 x7 x8 x9 x10
 try rw [hW]
 try rw [hB0]
 clear hW hB0
 go_region_law (first
  | (go_simp; go_at_call 135; ((with_reducible refine (zi _).mono ?_); rintro e w2 ⟨rfl,g⟩; have K2:=K1.quiet g; have q0:=wkeep g p0; clear g zi))
  | (go_simp; go_at_call 136; ((with_reducible refine (zp _ K2).mono ?_); rintro e w3 ⟨rfl,K3⟩; clear zp)))
 all_goals
  go_wp2
  simp [bodyPost,results,Tryz.results130,go_sem]
  exact K3
set_option maxRecDepth 20000 in
theorem zdel3_c {V w:World} {R:List Thing} {Z N:Nat} {M:List KP} {ws:List Nat} (H:SetIs V w R Z (M.map toN) N) (hN:N < 99990) (f:EngF 3 ws M) {x:EntV} (hx:FitX 3 ws x) (hy:∃ m ∈ M,OneK m.1 x) (A:Option Addr) (n c:Nat) :
 Calls Tryz.prog 127 #[.agg #[.pointer (some ⟨Z,0,none⟩)],entV x (.slice A n c)] w fun e w' => e = .returned (.tuple #[]) ∧ SetIs V w' R Z ((butM M x).map toN) N:=by
 have hks:x.key.size < 1000000:=by have:=hx.1; have:=f.w32; omega
 have hms:x.oth.size < 1000000:=by rw [size3 hx]; exact hks
 have e2:delL (M.map toN) x.key x.oth x.pr = (butM M x).map toN:=butL_toN f.fit hx 0
 have hy2:∃ y ∈ M.map toN,SameN y ⟨x.key,x.oth,x.pr,0⟩:=by
  obtain ⟨m,hm,o⟩:=hy
  exact ⟨toN m,List.mem_map.2 ⟨m,hm,rfl⟩,o.1,o.2.1,o.2.2.2⟩
 have zp:=fun (W:World) (H1:SetIs V W R Z (M.map toN) N) => sdel_o H1 hN hks hms hy2 e2
 clear e2 hy2
 have zi:=zitem_c x A n c 0
 obtain ⟨L2,hL2⟩ : ∃ L2,(butM M x).map toN = L2:=⟨_,rfl⟩
 rw [hL2] at zp
 rw [hL2]
 clear hx hy f hks hms hL2
 obtain ⟨tb,key,oth,ln,pr,bk,args,idle,hard,ck,tl⟩:=x
 have zi:∀ w,Calls Tryz.prog 135 #[.agg #[.int .i64 tb,.string key,.string oth,.int .i64 ln,.int .i64 pr,.int .i64 bk,.slice A n c,.int .i64 idle,.int .i64 hard,.int .u64 ck,.bool tl],.int .i64 0] w fun e w' => e = .returned (.agg #[.string key,.string oth,.int .i64 pr,.int .i64 0]) ∧ Wider w w':=zi
 show Calls Tryz.prog 127 #[.agg #[.pointer (some ⟨Z,0,none⟩)],.agg #[.int .i64 tb,.string key,.string oth,.int .i64 ln,.int .i64 pr,.int .i64 bk,.slice A n c,.int .i64 idle,.int .i64 hard,.int .u64 ck,.bool tl]] w _
 have H1:=H.quiet (((Wider.refl w).alloc (.cells #[.pointer (some ⟨Z,0,none⟩)] 110)).alloc (.cells #[.int .i64 tb,.string key,.string oth,.int .i64 ln,.int .i64 pr,.int .i64 bk,.slice A n c,.int .i64 idle,.int .i64 hard,.int .u64 ck,.bool tl] 26))
 have K1:=H1.quiet (Wider.refl _).drew
 have E0:=ent11_box2 w #[.pointer (some ⟨Z,0,none⟩)] 110 tb key oth ln pr bk A n c idle hard ck tl
 have p0:((w.alloc (.cells #[.pointer (some ⟨Z,0,none⟩)] 110)).alloc (.cells #[.int .i64 tb,.string key,.string oth,.int .i64 ln,.int .i64 pr,.int .i64 bk,.slice A n c,.int .i64 idle,.int .i64 hard,.int .u64 ck,.bool tl] 26)).cell? ⟨w.heap.size,0,none⟩ = some (.pointer (some ⟨Z,0,none⟩)):=wkeep ((Wider.refl _).alloc _) (by rw [World.cell?_alloc_new]; rfl)
 obtain ⟨x0,x1,x2,x3,x4,x5,x6,x7,x8,x9,x10⟩:=E0
 clear H
 go_enter Tryz.func127,Tryz.ntmps127
 go_wp2_with (first
  | (go_at_call 132; ((with_reducible refine (zp _ H1).mono ?_); rintro e w3 ⟨rfl,K3⟩; clear zp)))
 simp [bodyPost,results,Tryz.results127,go_sem]
 exact K3
theorem zfind3_c {V w:World} {R:List Thing} {Z N:Nat} {M:List KP} (H:SetIs V w R Z (M.map toN) N) (hN:N < 99990) {key:ByteArray} (hk:key.size < 1000000) :
 Calls Tryz.prog 128 #[.agg #[.pointer (some ⟨Z,0,none⟩)],.string key] w fun e w' => ∃ v b,e = .returned (.tuple #[.int .i64 v,.bool b]) ∧ Find3 M v b ∧ SetIs V w' R Z (M.map toN) N:=by
 obtain ⟨b,hb⟩ : ∃ b,(findF key (M.map toN)).isSome = b:=⟨_,rfl⟩
 obtain ⟨y,hy⟩ : ∃ y,(findF key (M.map toN)).getD zeroI = y:=⟨_,rfl⟩
 obtain ⟨k2,m2,q2,v2⟩:=y
 have HF:Hid (Find3 M v2 b):=Lib.hid (by
  intro eb
  subst eb
  cases e:findF key (M.map toN) with
  | none => rw [e] at hb; cases hb
  | some z =>
    rw [e] at hy
    have hy:z = ⟨k2,m2,q2,v2⟩:=hy
    rcases findF_mem _ _ _ e with h | h
    · obtain ⟨m,hm,em⟩:=List.mem_map.1 h
      exact ⟨m,hm,by have:=congrArg ItN.v (em.trans hy); exact this.symm⟩
    · cases h)
 have H1:=H.quiet ((Wider.refl w).alloc (.cells #[.pointer (some ⟨Z,0,none⟩)] 110))
 have zp:=sfind_o H1 hN hk hy hb
 clear H H1 hb hy
 go_enter Tryz.func128,Tryz.ntmps128
 go_wp2_with (first
  | (go_at_call 133; ((with_reducible refine zp.mono ?_); rintro e w1 ⟨rfl,K⟩; clear zp; have K2:=K.quiet ((Wider.refl w1).alloc (.cells #[.string k2,.string m2,.int .i64 q2,.int .i64 v2] 193)); have d3:=uget3 w1 k2 m2 q2 v2)))
 go_ret2
 exact ⟨v2,b,rfl,HF.out,K2⟩
set_option maxRecDepth 20000 in
theorem zfits4_c (Z:Nat) {D:Option Addr} {nw cw:Nat} {ws:List Nat} {w:World} (hW:WidthsAt w D ws) (hn:ws.length = nw) (h4:nw < 1000) (hs:ws.sum < 1000) (x:EntV) (hk:x.key.size = ws.sum) (A:Option Addr) (n c:Nat) {r:Bool} (hr:decide (Fit4 ws x.key x.oth x.ln x.pr) = r) (ho:x.oth.size ≤ 9223372036854775807) :
 Calls Tryz.prog 183 #[.agg #[.pointer (some ⟨Z,0,none⟩),.slice D nw cw],entV x (.slice A n c)] w fun e w' => e = .returned (.bool r) ∧ Wider w w':=by
 obtain ⟨tb,key,oth,ln,pr,bk,args,idle,hard,ck,tl⟩:=x
 change key.size = ws.sum at hk
 change oth.size ≤ 9223372036854775807 at ho
 change decide (ln = 0 ∧ (0 ≤ pr ∧ pr ≤ 2147483647) ∧ FormR ws ⟨key,oth,pr,0⟩) = r at hr
 show Calls Tryz.prog 183 #[.agg #[.pointer (some ⟨Z,0,none⟩),.slice D nw cw],.agg #[.int .i64 tb,.string key,.string oth,.int .i64 ln,.int .i64 pr,.int .i64 bk,.slice A n c,.int .i64 idle,.int .i64 hard,.int .u64 ck,.bool tl]] w _
 have E0:=ent11_box2 w #[.pointer (some ⟨Z,0,none⟩),.slice D nw cw] 115 tb key oth ln pr bk A n c idle hard ck tl
 have G:=((Wider.refl w).alloc (.cells #[.pointer (some ⟨Z,0,none⟩),.slice D nw cw] 115)).alloc (.cells #[.int .i64 tb,.string key,.string oth,.int .i64 ln,.int .i64 pr,.int .i64 bk,.slice A n c,.int .i64 idle,.int .i64 hard,.int .u64 ck,.bool tl] 26)
 obtain ⟨p0,p1⟩ : ((w.alloc (.cells #[.pointer (some ⟨Z,0,none⟩),.slice D nw cw] 115)).alloc (.cells #[.int .i64 tb,.string key,.string oth,.int .i64 ln,.int .i64 pr,.int .i64 bk,.slice A n c,.int .i64 idle,.int .i64 hard,.int .u64 ck,.bool tl] 26)).cell? ⟨w.heap.size,0,none⟩ = some (.pointer (some ⟨Z,0,none⟩)) ∧ ((w.alloc (.cells #[.pointer (some ⟨Z,0,none⟩),.slice D nw cw] 115)).alloc (.cells #[.int .i64 tb,.string key,.string oth,.int .i64 ln,.int .i64 pr,.int .i64 bk,.slice A n c,.int .i64 idle,.int .i64 hard,.int .u64 ck,.bool tl] 26)).cell? ⟨w.heap.size,1,none⟩ = some (.slice D nw cw):=⟨wkeep ((Wider.refl _).alloc _) (by rw [World.cell?_alloc_new]; rfl),wkeep ((Wider.refl _).alloc _) (by rw [World.cell?_alloc_new]; rfl)⟩
 have HWA:=Lib.hid hW
 clear hW
 obtain ⟨x0,x1,x2,x3,x4,x5,x6,x7,x8,x9,x10⟩:=E0
 by_cases h1:ln = 0
 · subst h1
   by_cases h3:0 ≤ pr ∧ pr ≤ 2147483647
   · have zb:=zbetween_c pr 0 2147483647 (decide_eq_true h3)
     by_cases h5:oth.size = key.size
     · have z5:((oth.size:Int) == (key.size:Int)) = true:=by rw [h5]; simp
       have zr:=fun (W:World) (g:Wider w W) => zrises_c (c:=cw) key oth (fun j m hj => by obtain ⟨B,e,hc⟩:=HWA.out j m hj; exact ⟨B,e,wkeep g hc⟩) hn h4 hk (h5.trans hk) (by omega) pr 0 (r:=r) (by
        rw [← hr]
        have:FormR ws ⟨key,oth,pr,0⟩ ↔ inK ws key ⟨key,oth,pr,0⟩ = true:=⟨fun q => q.2.2,fun q => ⟨hk,h5.trans hk,q⟩⟩
        simp [h3,this])
       have HI:=Lib.hid h5
       clear hr h3 hk ho h5 hs hn
       go_enter Tryz.func183,Tryz.ntmps183
       go_wp2_with (first
        | (go_at_call 38; ((with_reducible refine (zb _).mono ?_); rintro e w2 ⟨rfl,g⟩; have y1:=wkeep g x1; have y2:=wkeep g x2; have q1:=wkeep g p1; replace G:=G.trans g; clear zb))
        | (go_at_call 188; ((with_reducible refine (zr _ G).mono ?_); rintro e w3 ⟨rfl,g⟩; replace G:=G.trans g; clear zr)))
       go_ret
       exact ⟨rfl,G⟩
     · have z5:((oth.size:Int) == (key.size:Int)) = false:=by rw [beq_eq_false_iff_ne]; omega
       obtain rfl:r = false:=by rw [← hr]; exact decide_eq_false fun q => h5 (q.2.2.2.1.trans hk.symm)
       clear hr h3 hk ho h5 hs hn
       go_enter Tryz.func183,Tryz.ntmps183
       go_wp2_with (first
        | (go_at_call 38; ((with_reducible refine (zb _).mono ?_); rintro e w2 ⟨rfl,g⟩; have y1:=wkeep g x1; have y2:=wkeep g x2; have q1:=wkeep g p1; replace G:=G.trans g; clear zb)))
       go_ret
       exact ⟨rfl,G⟩
   · have zb:=zbetween_c pr 0 2147483647 (decide_eq_false h3)
     obtain rfl:r = false:=by rw [← hr]; exact decide_eq_false fun q => h3 q.2.1
     clear hr h3 hk ho hs hn
     go_enter Tryz.func183,Tryz.ntmps183
     go_wp2_with (first
      | (go_at_call 38; ((with_reducible refine (zb _).mono ?_); rintro e w2 ⟨rfl,g⟩; have y1:=wkeep g x1; have y2:=wkeep g x2; have q1:=wkeep g p1; replace G:=G.trans g; clear zb)))
     go_ret
     exact ⟨rfl,G⟩
 · obtain rfl:r = false:=by rw [← hr]; exact decide_eq_false fun q => h1 q.1
   have e3:(ln == 0) = false:=by rw [beq_eq_false_iff_ne]; exact h1
   clear hr hk ho hs hn
   go_enter Tryz.func183,Tryz.ntmps183
   go_wp2
   go_ret
   exact ⟨rfl,G⟩
theorem bestF_mem {ws:List Nat} {key:ByteArray} : ∀ (L:List ItR) (o:Option ItR) (x:ItR),L.foldl (pickR ws key) o = some x → x ∈ L ∨ o = some x
 | [],o,x,h => .inr h
 | y :: L,o,x,h => by
   rcases bestF_mem L (pickR ws key o y) x h with k | k
   · exact .inl (.tail _ k)
   · unfold pickR at k
     split at k
     · exact .inl (by rw [← Option.some.inj k]; exact .head _)
     · exact .inr k
def Find4 (ws:List Nat) (M:List KP) (key:ByteArray) (v:Int) (b:Bool):Prop:=v = numR (findR ws key (M.map toR)) ∧ b = (findR ws key (M.map toR)).isSome
theorem find4_mem {ws:List Nat} {M:List KP} {key:ByteArray} {v:Int} {b:Bool} (h:Find4 ws M key v b):Find3 M v b:=by
 intro e
 obtain ⟨rfl,rfl⟩:=h
 unfold findR at e ⊢
 split at e
 · rename_i hk
   rw [if_pos hk]
   unfold bestF at e ⊢
   cases q:(M.map toR).foldl (pickR ws key) none with
   | none => rw [q] at e; cases e
   | some z =>
     rcases bestF_mem _ _ _ q with h | h
     · obtain ⟨m,hm,rfl⟩:=List.mem_map.1 h
       exact ⟨m,hm,rfl⟩
     · cases h
 · cases e
theorem inF_v (key low high:ByteArray) (p q v u:Int):∀ (ws:List Nat) (o:Nat),inF key ⟨low,high,p,v⟩ o ws = inF key ⟨low,high,q,u⟩ o ws
 | [],_ => rfl
 | n :: ws,o => by
   unfold inF
   rw [inF_v key low high p q v u ws (o + n)]
theorem form4 {ws:List Nat} {x:EntV} (h:FitX 4 ws x) (v:Int):FormR ws ⟨x.key,x.oth,x.pr,v⟩:=by
 obtain ⟨a,b,c⟩:=(h.2.2.2.2 rfl).2.2
 exact ⟨a,b,(inF_v _ _ _ _ _ _ _ ws 0).trans c⟩
set_option maxRecDepth 20000 in
theorem zput4_c {V w:World} {R:List Thing} {Z N:Nat} {D:Option Addr} {nw cw:Nat} {M:List KP} {ws:List Nat} (H:RangIs V w R Z ws (M.map toR) N) (hN:N < 99990) (f:EngF 4 ws M) {x:EntV} (hx:FitX 4 ws x) (hn:∀ m ∈ M,¬ OneK m.1 x) (A:Option Addr) (n c:Nat) (k:Nat) {kk:Int} (hk:(k:Int) = kk) :
 Calls Tryz.prog 184 #[.agg #[.pointer (some ⟨Z,0,none⟩),.slice D nw cw],entV x (.slice A n c),.int .i64 kk] w fun e w' => e = .returned (.tuple #[]) ∧ RangIs V w' R Z ws ((M ++ [(x,k)]).map toR) (N + 1):=by
 subst hk
 have e2:butR (M.map toR) ⟨x.key,x.oth,x.pr,(k:Int)⟩ ++ [⟨x.key,x.oth,x.pr,(k:Int)⟩] = (M ++ [(x,k)]).map toR:=by
  rw [butR_toR f.fit hx,butM_none hn,List.map_append]; rfl
 have zp:=fun (W:World) (H1:RangIs V W R Z ws (M.map toR) N) => vput_o H1 hN (form4 hx (k:Int)) e2
 clear e2
 obtain ⟨L2,hL2⟩ : ∃ L2,(M ++ [(x,k)]).map toR = L2:=⟨_,rfl⟩
 rw [hL2] at zp
 rw [hL2]
 clear hx hn f hL2
 obtain ⟨tb,key,oth,ln,pr,bk,args,idle,hard,ck,tl⟩:=x
 show Calls Tryz.prog 184 #[.agg #[.pointer (some ⟨Z,0,none⟩),.slice D nw cw],.agg #[.int .i64 tb,.string key,.string oth,.int .i64 ln,.int .i64 pr,.int .i64 bk,.slice A n c,.int .i64 idle,.int .i64 hard,.int .u64 ck,.bool tl],.int .i64 (k:Int)] w _
 have H1:=H.quiet (((Wider.refl w).alloc (.cells #[.pointer (some ⟨Z,0,none⟩),.slice D nw cw] 115)).alloc (.cells #[.int .i64 tb,.string key,.string oth,.int .i64 ln,.int .i64 pr,.int .i64 bk,.slice A n c,.int .i64 idle,.int .i64 hard,.int .u64 ck,.bool tl] 26))
 clear H
 go_enter Tryz.func184,Tryz.ntmps184
 go_wp2_with (first
  | (go_at_call 189; ((with_reducible refine (zp _ H1).mono ?_); rintro e w3 ⟨rfl,K3⟩; clear zp)))
 simp [bodyPost,results,Tryz.results184,go_sem]
 exact K3
set_option maxRecDepth 20000 in
theorem zdel4_c {V w:World} {R:List Thing} {Z N:Nat} {D:Option Addr} {nw cw:Nat} {M:List KP} {ws:List Nat} (H:RangIs V w R Z ws (M.map toR) N) (hN:N < 99990) (f:EngF 4 ws M) {x:EntV} (hx:FitX 4 ws x) (hy:∃ m ∈ M,OneK m.1 x) (A:Option Addr) (n c:Nat) :
 Calls Tryz.prog 181 #[.agg #[.pointer (some ⟨Z,0,none⟩),.slice D nw cw],entV x (.slice A n c)] w fun e w' => e = .returned (.tuple #[]) ∧ RangIs V w' R Z ws ((butM M x).map toR) N:=by
 have e2:butR (M.map toR) ⟨x.key,x.oth,x.pr,0⟩ = (butM M x).map toR:=butR_toR f.fit hx 0
 have zp:=fun (W:World) (H1:RangIs V W R Z ws (M.map toR) N) => vdel_o H1 hN (low:=x.key) (high:=x.oth) (prio:=x.pr) rfl e2
 clear e2
 obtain ⟨L2,hL2⟩ : ∃ L2,(butM M x).map toR = L2:=⟨_,rfl⟩
 rw [hL2] at zp
 rw [hL2]
 clear hx hy f hL2
 obtain ⟨tb,key,oth,ln,pr,bk,args,idle,hard,ck,tl⟩:=x
 show Calls Tryz.prog 181 #[.agg #[.pointer (some ⟨Z,0,none⟩),.slice D nw cw],.agg #[.int .i64 tb,.string key,.string oth,.int .i64 ln,.int .i64 pr,.int .i64 bk,.slice A n c,.int .i64 idle,.int .i64 hard,.int .u64 ck,.bool tl]] w _
 have H1:=H.quiet (((Wider.refl w).alloc (.cells #[.pointer (some ⟨Z,0,none⟩),.slice D nw cw] 115)).alloc (.cells #[.int .i64 tb,.string key,.string oth,.int .i64 ln,.int .i64 pr,.int .i64 bk,.slice A n c,.int .i64 idle,.int .i64 hard,.int .u64 ck,.bool tl] 26))
 clear H
 go_enter Tryz.func181,Tryz.ntmps181
 go_wp2_with (first
  | (go_at_call 186; ((with_reducible refine (zp _ H1).mono ?_); rintro e w3 ⟨rfl,K3⟩; clear zp)))
 simp [bodyPost,results,Tryz.results181,go_sem]
 exact K3
theorem zfind4_c {V w:World} {R:List Thing} {Z N:Nat} {D:Option Addr} {nw cw:Nat} {M:List KP} {ws:List Nat} (H:RangIs V w R Z ws (M.map toR) N) (hN:N < 99990) (key:ByteArray) :
 Calls Tryz.prog 182 #[.agg #[.pointer (some ⟨Z,0,none⟩),.slice D nw cw],.string key] w fun e w' => ∃ v b,e = .returned (.tuple #[.int .i64 v,.bool b]) ∧ Find4 ws M key v b ∧ RangIs V w' R Z ws (M.map toR) N:=by
 obtain ⟨b,hb⟩ : ∃ b,(findR ws key (M.map toR)).isSome = b:=⟨_,rfl⟩
 obtain ⟨v2,hv⟩ : ∃ v,numR (findR ws key (M.map toR)) = v:=⟨_,rfl⟩
 have HF:Hid (Find4 ws M key v2 b):=Lib.hid ⟨hv.symm,hb.symm⟩
 have H1:=H.quiet ((Wider.refl w).alloc (.cells #[.pointer (some ⟨Z,0,none⟩),.slice D nw cw] 115))
 have zp:=vfind_o H1 hN hv hb
 clear H hb hv
 go_enter Tryz.func182,Tryz.ntmps182
 go_wp2_with (first
  | (go_at_call 187; ((with_reducible refine zp.mono ?_); rintro e w1 ⟨rfl,K⟩; clear zp)))
 go_ret2
 exact ⟨v2,b,rfl,HF.out,H1.quiet K⟩
theorem RangTwo.dropT {V w:World} {R:List Thing} {t:Thing} {S N T K:Nat} {ws us:List Nat} {L M:List ItR} (h:RangTwo V w (t :: R) S ws L N T us M K):RangTwo V w R S ws L N T us M K:=by
 obtain ⟨wv,iv,h1,h2⟩:=h
 refine ⟨wv,iv,?_,h2⟩
 obtain ⟨a,b,H,k⟩:=h1
 refine ⟨a,b,?_,k⟩
 exact (H.perm (List.perm_middle (l₁:=[setT S a b ws,rowW a ws,rowR b L,setT T wv iv us,rowW wv us,rowR iv M]))).drop
theorem ztwin4_c {V w:World} {R:List Thing} {Z N:Nat} {D:Option Addr} {nw cw:Nat} {M:List KP} {ws:List Nat} (H:RangIs V w R Z ws (M.map toR) N) (hN:N < 99990) :
 Calls Tryz.prog 185 #[.agg #[.pointer (some ⟨Z,0,none⟩),.slice D nw cw]] w fun e w' => ∃ Y,e = .returned (.iface 115 (.agg #[.pointer (some ⟨Y,0,none⟩),.slice D nw cw])) ∧ RangTwo V w' R Y ws (M.map toR) N Z ws (M.map toR) N:=by
 have H1:=H.blk #[.pointer (some ⟨Z,0,none⟩),.slice D nw cw] 115
 have K1:=H1.quiet (Wider.refl _).drew
 obtain ⟨p0,p1⟩ : (w.alloc (.cells #[.pointer (some ⟨Z,0,none⟩),.slice D nw cw] 115)).cell? ⟨w.heap.size,0,none⟩ = some (.pointer (some ⟨Z,0,none⟩)) ∧ (w.alloc (.cells #[.pointer (some ⟨Z,0,none⟩),.slice D nw cw] 115)).cell? ⟨w.heap.size,1,none⟩ = some (.slice D nw cw):=⟨by rw [World.cell?_alloc_new]; rfl,by rw [World.cell?_alloc_new]; rfl⟩
 have zp:=fun {R:List Thing} (W:World) (H1:RangIs V W R Z ws (M.map toR) N) => vcopy_o H1 hN
 clear H
 go_enter Tryz.func185,Tryz.ntmps185
 go_upto_region 1 with (fail)
 obtain ⟨W,hW⟩ : ∃ W,w.alloc (.cells #[.pointer (some ⟨Z,0,none⟩),.slice D nw cw] 115) = W:=⟨_,rfl⟩
 obtain ⟨B0,hB0⟩ : ∃ B,w.heap.size = B:=⟨_,rfl⟩
 rw [hW] at H1 K1 p0 p1
 rw [hB0] at H1 K1 p0 p1
 try rw [hW]
 try rw [hB0]
 clear hW hB0
 go_region_law (first
  | (go_simp; go_at_call 190; ((with_reducible refine (zp _ K1).mono ?_); rintro e w2 ⟨Y,rfl,K2⟩; clear zp; have d0:=blk_cell K2.rest.head 0 (v:=.pointer (some ⟨Z,0,none⟩)) rfl; have d1:=blk_cell K2.rest.head 1 (v:=.slice D nw cw) rfl)))
 all_goals
  go_wp2
  go_ret
  exact ⟨Y,rfl,K2.dropT⟩
end Go.Proofs.YtbnpelciceblfaaGreat
