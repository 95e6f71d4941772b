/- PDocB -/
import Derived.Test.YtoopdhgmdjienaaGreatDoorPkR38
namespace Go.Proofs.YtoopdhgmdjienaaGreatDoor
set_option linter.unusedVariables false
set_option maxRecDepth 20000
open Go.ChangeShapes Go.WideShapes Go.ChangeAt Go.RowKit Go.Joins
open Go.ChangeMaps (open_string shut_string)
set_option maxHeartbeats 64000000
theorem doc_boxes (w:World) (M:Array Value):∃ W B,(w.alloc (.cells M 51)).alloc (.cells zM 51) = W ∧ w.heap.size = B ∧ Wider w W ∧ W.heap[B]? = some (.cells M 51 (0,0)) ∧ W.heap[B + 1]? = some (.cells zM 51 (0,0)) ∧ B + 1 < W.heap.size:=by
 have g3:=(Wider.refl (w.alloc (.cells M 51))).alloc (.cells zM 51)
 have z1:(w.alloc (.cells M 51)).heap.size = w.heap.size + 1:=by simp
 have h1:=heap_alloc_new (w.alloc (.cells M 51)) (.cells zM 51)
 rw [z1] at h1
 exact ⟨_,_,rfl,rfl,((Wider.refl w).alloc _).trans g3,wide_blk (heap_alloc_new w (.cells M 51)) g3,h1,by simp⟩
def ObjM (P:World → Prop) (w w':World) (x:Ending) (d:MsgD) (k:Nat) (s:ByteArray):Prop:=∃ M2 vs b,x = .returned (.tuple #[.agg M2,.bool b]) ∧ Wider w w' ∧ (∀ W,P W → Keeps w.heap.size w' W → RepD W M2 (d.setN (k + 9) (.obj vs))) ∧ (((partC 65535 (k + 9)).dec s = some (.obj vs) ∧ b = true) ∨ ((partC 65535 (k + 9)).dec s = none ∧ b = false))
theorem robject_0 {P:World → Prop} {w:World} {M:Array Value} {d:MsgD} (hP:∀ W,Wider w W → P W) (R:∀ W,P W → RepD W M d) (s:ByteArray) (hs:s.size ≤ 65535) :
 Calls Tryz.prog 94 #[.agg M,.int .u8 10,.string s] w fun x w' => ObjM P w w' x d 0 s:=by
 obtain ⟨W,B,hW,hB,G,h0,hZ,hz⟩:=doc_boxes w M
 have n2:B + 1 ≠ B:=by omega
 have wB:Hid (w.heap.size ≤ B):=Lib.hid (by omega)
 have hzB:=Lib.hid (And.intro hz (Nat.lt_of_succ_lt hz))
 have sM:=(R w (hP w (Wider.refl w))).size
 obtain ⟨vs,r,hr⟩ : ∃ vs r,decG csNode s.data.toList = (vs,r):=⟨_,_,rfl⟩
 have zi:=repNode_oread s W (by omega) hr
 have hd:=dec_obj 65535 0 s (vs:=vs) (r:=r) hr
 have HD:=Lib.hid hd
 have RW:=Lib.hid R
 clear hr hd R hz
 go_enter Tryz.func94,Tryz.ntmps94
 go_upto_region 1 with (fail)
 try rw [hW]
 try rw [hB]
 clear hW
 obtain ⟨B2,hB2⟩ : ∃ B2,B + 1 = B2:=⟨_,rfl⟩
 rw [hB2] at hZ hzB n2 ⊢
 have wB2:Hid (w.heap.size ≤ B2):=Lib.hid (by have:=wB.out; omega)
 clear hB2
 go_upto_region 18 with (first
  | (go_at_call 141; (with_reducible refine zi.mono ?_); rintro e w1 ⟨c,rfl,g1,hR⟩; have HR:=Lib.hid hR; clear hR; have h1:=wide_blk h0 g1; have sc:=(HR.out _ (Keeps.refl _ _)).size; have oc:=(HR.out _ (Keeps.refl _ _)).one)
  | (with_reducible refine wpList_field rfl 51 (.tmp 3) 11 rfl B 0 11 rfl (fieldM11 _) ?_)
  | (with_reducible refine wpList_store_part rfl 32 _ _ rfl B 11 c rfl rfl 51 M h1 (by rw [sc]; kernel_rfl) (by rw [sc,sM]; decide) oc (new:=setPart M 11 c) rfl ?_))
 obtain ⟨g2,h2⟩:=setRow_facts (setPart M 11 c) h1
 have hZ2:=but_blk (wide_blk hZ g1) g2 n2
 obtain ⟨M2,hM2⟩ : ∃ M2,setPart M 11 c = M2:=⟨_,rfl⟩
 have R2:∀ W',P W' → Keeps W.heap.size w1 W' → RepD W' M2 (d.setN 9 (.obj vs)):=fun W' g kp => by rw [← hM2]; exact RepD.set9 (RW.out W' g) (HR.out W' kp)
 rw [hM2] at h2 g2 hZ2 ⊢
 obtain ⟨w2,hw2⟩ : ∃ w2,World.setRow w1 B M2 = w2:=⟨_,rfl⟩
 rw [hw2] at h2 g2 hZ2 ⊢
 have G2:=g2.wider (G.trans g1) (by intro i m; obtain rfl:=List.mem_singleton.1 m; exact wB.out)
 have K2:Keeps W.heap.size w1 w2:=g2.keeps hzB.out.2
 have R3:=R2 w2 (hP _ G2) K2
 have s2:=R3.size
 have o2:=R3.one
 have HR2:=Lib.hid R2
 have HK2:=Lib.hid K2
 clear R2 R3 K2 hw2 hM2 sc oc HR g2
 go_wp2_with (first
  | (with_reducible refine wpList_load_row rfl 51 _ rfl B rfl 51 M2 (0,0) _ h2 Tryz.underlying51 rfl (by rw [s2]; kernel_rfl) ?_)
  | (with_reducible refine wpList_store_row rfl 51 _ _ rfl B2 M2 rfl rfl 51 zM hZ2 (by rw [s2]; kernel_rfl) (by rw [s2]; exact zM_size) o2 ?_))
 obtain ⟨g6,h6⟩:=setRow_facts M2 hZ2
 have G6:=g6.wider G2 (by intro i m; obtain rfl:=List.mem_singleton.1 m; exact wB2.out)
 have hl:=run_loadVar_row (P:=Tryz.prog) _ B2 51 51 _ (0,0) _ h6 Tryz.underlying51 rfl (by rw [s2]; kernel_rfl)
 have R6:=fun W' (gv:P W') kp => HR2.out W' gv (HK2.out.trans ((g6.keeps hzB.out.1).trans (Keeps.less kp G.2)))
 clear HR2 HK2
 simp [bodyPost,results,Tryz.results94,asAddr,hl]
 refine ⟨_,vs,_,rfl,G6,R6,?_⟩
 have q:=HD.out
 by_cases c0:r = 0
 · subst c0; exact .inl ⟨by rw [q]; rfl,rfl⟩
 · exact .inr ⟨by rw [q,if_neg c0],by simp [c0]⟩
theorem robject_1 {P:World → Prop} {w:World} {M:Array Value} {d:MsgD} (hP:∀ W,Wider w W → P W) (R:∀ W,P W → RepD W M d) (s:ByteArray) (hs:s.size ≤ 65535) :
 Calls Tryz.prog 94 #[.agg M,.int .u8 11,.string s] w fun x w' => ObjM P w w' x d 1 s:=by
 obtain ⟨W,B,hW,hB,G,h0,hZ,hz⟩:=doc_boxes w M
 have n2:B + 1 ≠ B:=by omega
 have wB:Hid (w.heap.size ≤ B):=Lib.hid (by omega)
 have hzB:=Lib.hid (And.intro hz (Nat.lt_of_succ_lt hz))
 have sM:=(R w (hP w (Wider.refl w))).size
 obtain ⟨vs,r,hr⟩ : ∃ vs r,decG csField s.data.toList = (vs,r):=⟨_,_,rfl⟩
 have zi:=repField_oread s W (by omega) hr
 have hd:=dec_obj 65535 1 s (vs:=vs) (r:=r) hr
 have HD:=Lib.hid hd
 have RW:=Lib.hid R
 clear hr hd R hz
 go_enter Tryz.func94,Tryz.ntmps94
 go_upto_region 1 with (fail)
 try rw [hW]
 try rw [hB]
 clear hW
 obtain ⟨B2,hB2⟩ : ∃ B2,B + 1 = B2:=⟨_,rfl⟩
 rw [hB2] at hZ hzB n2 ⊢
 have wB2:Hid (w.heap.size ≤ B2):=Lib.hid (by have:=wB.out; omega)
 clear hB2
 go_upto_region 18 with (first
  | (go_at_call 142; (with_reducible refine zi.mono ?_); rintro e w1 ⟨c,rfl,g1,hR⟩; have HR:=Lib.hid hR; clear hR; have h1:=wide_blk h0 g1; have sc:=(HR.out _ (Keeps.refl _ _)).size; have oc:=(HR.out _ (Keeps.refl _ _)).one)
  | (with_reducible refine wpList_field rfl 51 (.tmp 3) 12 rfl B 0 20 rfl (fieldM12 _) ?_)
  | (with_reducible refine wpList_store_part rfl 34 _ _ rfl B 20 c rfl rfl 51 M h1 (by rw [sc]; kernel_rfl) (by rw [sc,sM]; decide) oc (new:=setPart M 20 c) rfl ?_))
 obtain ⟨g2,h2⟩:=setRow_facts (setPart M 20 c) h1
 have hZ2:=but_blk (wide_blk hZ g1) g2 n2
 obtain ⟨M2,hM2⟩ : ∃ M2,setPart M 20 c = M2:=⟨_,rfl⟩
 have R2:∀ W',P W' → Keeps W.heap.size w1 W' → RepD W' M2 (d.setN 10 (.obj vs)):=fun W' g kp => by rw [← hM2]; exact RepD.set10 (RW.out W' g) (HR.out W' kp)
 rw [hM2] at h2 g2 hZ2 ⊢
 obtain ⟨w2,hw2⟩ : ∃ w2,World.setRow w1 B M2 = w2:=⟨_,rfl⟩
 rw [hw2] at h2 g2 hZ2 ⊢
 have G2:=g2.wider (G.trans g1) (by intro i m; obtain rfl:=List.mem_singleton.1 m; exact wB.out)
 have K2:Keeps W.heap.size w1 w2:=g2.keeps hzB.out.2
 have R3:=R2 w2 (hP _ G2) K2
 have s2:=R3.size
 have o2:=R3.one
 have HR2:=Lib.hid R2
 have HK2:=Lib.hid K2
 clear R2 R3 K2 hw2 hM2 sc oc HR g2
 go_wp2_with (first
  | (with_reducible refine wpList_load_row rfl 51 _ rfl B rfl 51 M2 (0,0) _ h2 Tryz.underlying51 rfl (by rw [s2]; kernel_rfl) ?_)
  | (with_reducible refine wpList_store_row rfl 51 _ _ rfl B2 M2 rfl rfl 51 zM hZ2 (by rw [s2]; kernel_rfl) (by rw [s2]; exact zM_size) o2 ?_))
 obtain ⟨g6,h6⟩:=setRow_facts M2 hZ2
 have G6:=g6.wider G2 (by intro i m; obtain rfl:=List.mem_singleton.1 m; exact wB2.out)
 have hl:=run_loadVar_row (P:=Tryz.prog) _ B2 51 51 _ (0,0) _ h6 Tryz.underlying51 rfl (by rw [s2]; kernel_rfl)
 have R6:=fun W' (gv:P W') kp => HR2.out W' gv (HK2.out.trans ((g6.keeps hzB.out.1).trans (Keeps.less kp G.2)))
 clear HR2 HK2
 simp [bodyPost,results,Tryz.results94,asAddr,hl]
 refine ⟨_,vs,_,rfl,G6,R6,?_⟩
 have q:=HD.out
 by_cases c0:r = 0
 · subst c0; exact .inl ⟨by rw [q]; rfl,rfl⟩
 · exact .inr ⟨by rw [q,if_neg c0],by simp [c0]⟩
theorem robject_2 {P:World → Prop} {w:World} {M:Array Value} {d:MsgD} (hP:∀ W,Wider w W → P W) (R:∀ W,P W → RepD W M d) (s:ByteArray) (hs:s.size ≤ 65535) :
 Calls Tryz.prog 94 #[.agg M,.int .u8 12,.string s] w fun x w' => ObjM P w w' x d 2 s:=by
 obtain ⟨W,B,hW,hB,G,h0,hZ,hz⟩:=doc_boxes w M
 have n2:B + 1 ≠ B:=by omega
 have wB:Hid (w.heap.size ≤ B):=Lib.hid (by omega)
 have hzB:=Lib.hid (And.intro hz (Nat.lt_of_succ_lt hz))
 have sM:=(R w (hP w (Wider.refl w))).size
 obtain ⟨vs,r,hr⟩ : ∃ vs r,decG csTable s.data.toList = (vs,r):=⟨_,_,rfl⟩
 have zi:=repTable_oread s W (by omega) hr
 have hd:=dec_obj 65535 2 s (vs:=vs) (r:=r) hr
 have HD:=Lib.hid hd
 have RW:=Lib.hid R
 clear hr hd R hz
 go_enter Tryz.func94,Tryz.ntmps94
 go_upto_region 1 with (fail)
 try rw [hW]
 try rw [hB]
 clear hW
 obtain ⟨B2,hB2⟩ : ∃ B2,B + 1 = B2:=⟨_,rfl⟩
 rw [hB2] at hZ hzB n2 ⊢
 have wB2:Hid (w.heap.size ≤ B2):=Lib.hid (by have:=wB.out; omega)
 clear hB2
 go_upto_region 18 with (first
  | (go_at_call 143; (with_reducible refine zi.mono ?_); rintro e w1 ⟨c,rfl,g1,hR⟩; have HR:=Lib.hid hR; clear hR; have h1:=wide_blk h0 g1; have sc:=(HR.out _ (Keeps.refl _ _)).size; have oc:=(HR.out _ (Keeps.refl _ _)).one)
  | (with_reducible refine wpList_field rfl 51 (.tmp 3) 13 rfl B 0 25 rfl (fieldM13 _) ?_)
  | (with_reducible refine wpList_store_part rfl 37 _ _ rfl B 25 c rfl rfl 51 M h1 (by rw [sc]; kernel_rfl) (by rw [sc,sM]; decide) oc (new:=setPart M 25 c) rfl ?_))
 obtain ⟨g2,h2⟩:=setRow_facts (setPart M 25 c) h1
 have hZ2:=but_blk (wide_blk hZ g1) g2 n2
 obtain ⟨M2,hM2⟩ : ∃ M2,setPart M 25 c = M2:=⟨_,rfl⟩
 have R2:∀ W',P W' → Keeps W.heap.size w1 W' → RepD W' M2 (d.setN 11 (.obj vs)):=fun W' g kp => by rw [← hM2]; exact RepD.set11 (RW.out W' g) (HR.out W' kp)
 rw [hM2] at h2 g2 hZ2 ⊢
 obtain ⟨w2,hw2⟩ : ∃ w2,World.setRow w1 B M2 = w2:=⟨_,rfl⟩
 rw [hw2] at h2 g2 hZ2 ⊢
 have G2:=g2.wider (G.trans g1) (by intro i m; obtain rfl:=List.mem_singleton.1 m; exact wB.out)
 have K2:Keeps W.heap.size w1 w2:=g2.keeps hzB.out.2
 have R3:=R2 w2 (hP _ G2) K2
 have s2:=R3.size
 have o2:=R3.one
 have HR2:=Lib.hid R2
 have HK2:=Lib.hid K2
 clear R2 R3 K2 hw2 hM2 sc oc HR g2
 go_wp2_with (first
  | (with_reducible refine wpList_load_row rfl 51 _ rfl B rfl 51 M2 (0,0) _ h2 Tryz.underlying51 rfl (by rw [s2]; kernel_rfl) ?_)
  | (with_reducible refine wpList_store_row rfl 51 _ _ rfl B2 M2 rfl rfl 51 zM hZ2 (by rw [s2]; kernel_rfl) (by rw [s2]; exact zM_size) o2 ?_))
 obtain ⟨g6,h6⟩:=setRow_facts M2 hZ2
 have G6:=g6.wider G2 (by intro i m; obtain rfl:=List.mem_singleton.1 m; exact wB2.out)
 have hl:=run_loadVar_row (P:=Tryz.prog) _ B2 51 51 _ (0,0) _ h6 Tryz.underlying51 rfl (by rw [s2]; kernel_rfl)
 have R6:=fun W' (gv:P W') kp => HR2.out W' gv (HK2.out.trans ((g6.keeps hzB.out.1).trans (Keeps.less kp G.2)))
 clear HR2 HK2
 simp [bodyPost,results,Tryz.results94,asAddr,hl]
 refine ⟨_,vs,_,rfl,G6,R6,?_⟩
 have q:=HD.out
 by_cases c0:r = 0
 · subst c0; exact .inl ⟨by rw [q]; rfl,rfl⟩
 · exact .inr ⟨by rw [q,if_neg c0],by simp [c0]⟩
theorem robject_3 {P:World → Prop} {w:World} {M:Array Value} {d:MsgD} (hP:∀ W,Wider w W → P W) (R:∀ W,P W → RepD W M d) (s:ByteArray) (hs:s.size ≤ 65535) :
 Calls Tryz.prog 94 #[.agg M,.int .u8 13,.string s] w fun x w' => ObjM P w w' x d 3 s:=by
 obtain ⟨W,B,hW,hB,G,h0,hZ,hz⟩:=doc_boxes w M
 have n2:B + 1 ≠ B:=by omega
 have wB:Hid (w.heap.size ≤ B):=Lib.hid (by omega)
 have hzB:=Lib.hid (And.intro hz (Nat.lt_of_succ_lt hz))
 have sM:=(R w (hP w (Wider.refl w))).size
 obtain ⟨vs,r,hr⟩ : ∃ vs r,decG csEntry s.data.toList = (vs,r):=⟨_,_,rfl⟩
 have zi:=repEntry_oread s W (by omega) hr
 have hd:=dec_obj 65535 3 s (vs:=vs) (r:=r) hr
 have HD:=Lib.hid hd
 have RW:=Lib.hid R
 clear hr hd R hz
 go_enter Tryz.func94,Tryz.ntmps94
 go_upto_region 1 with (fail)
 try rw [hW]
 try rw [hB]
 clear hW
 obtain ⟨B2,hB2⟩ : ∃ B2,B + 1 = B2:=⟨_,rfl⟩
 rw [hB2] at hZ hzB n2 ⊢
 have wB2:Hid (w.heap.size ≤ B2):=Lib.hid (by have:=wB.out; omega)
 clear hB2
 go_upto_region 18 with (first
  | (go_at_call 144; (with_reducible refine zi.mono ?_); rintro e w1 ⟨c,rfl,g1,hR⟩; have HR:=Lib.hid hR; clear hR; have h1:=wide_blk h0 g1; have sc:=(HR.out _ (Keeps.refl _ _)).size; have oc:=(HR.out _ (Keeps.refl _ _)).one)
  | (with_reducible refine wpList_field rfl 51 (.tmp 3) 14 rfl B 0 30 rfl (fieldM14 _) ?_)
  | (with_reducible refine wpList_store_part rfl 39 _ _ rfl B 30 c rfl rfl 51 M h1 (by rw [sc]; kernel_rfl) (by rw [sc,sM]; decide) oc (new:=setPart M 30 c) rfl ?_))
 obtain ⟨g2,h2⟩:=setRow_facts (setPart M 30 c) h1
 have hZ2:=but_blk (wide_blk hZ g1) g2 n2
 obtain ⟨M2,hM2⟩ : ∃ M2,setPart M 30 c = M2:=⟨_,rfl⟩
 have R2:∀ W',P W' → Keeps W.heap.size w1 W' → RepD W' M2 (d.setN 12 (.obj vs)):=fun W' g kp => by rw [← hM2]; exact RepD.set12 (RW.out W' g) (HR.out W' kp)
 rw [hM2] at h2 g2 hZ2 ⊢
 obtain ⟨w2,hw2⟩ : ∃ w2,World.setRow w1 B M2 = w2:=⟨_,rfl⟩
 rw [hw2] at h2 g2 hZ2 ⊢
 have G2:=g2.wider (G.trans g1) (by intro i m; obtain rfl:=List.mem_singleton.1 m; exact wB.out)
 have K2:Keeps W.heap.size w1 w2:=g2.keeps hzB.out.2
 have R3:=R2 w2 (hP _ G2) K2
 have s2:=R3.size
 have o2:=R3.one
 have HR2:=Lib.hid R2
 have HK2:=Lib.hid K2
 clear R2 R3 K2 hw2 hM2 sc oc HR g2
 go_wp2_with (first
  | (with_reducible refine wpList_load_row rfl 51 _ rfl B rfl 51 M2 (0,0) _ h2 Tryz.underlying51 rfl (by rw [s2]; kernel_rfl) ?_)
  | (with_reducible refine wpList_store_row rfl 51 _ _ rfl B2 M2 rfl rfl 51 zM hZ2 (by rw [s2]; kernel_rfl) (by rw [s2]; exact zM_size) o2 ?_))
 obtain ⟨g6,h6⟩:=setRow_facts M2 hZ2
 have G6:=g6.wider G2 (by intro i m; obtain rfl:=List.mem_singleton.1 m; exact wB2.out)
 have hl:=run_loadVar_row (P:=Tryz.prog) _ B2 51 51 _ (0,0) _ h6 Tryz.underlying51 rfl (by rw [s2]; kernel_rfl)
 have R6:=fun W' (gv:P W') kp => HR2.out W' gv (HK2.out.trans ((g6.keeps hzB.out.1).trans (Keeps.less kp G.2)))
 clear HR2 HK2
 simp [bodyPost,results,Tryz.results94,asAddr,hl]
 refine ⟨_,vs,_,rfl,G6,R6,?_⟩
 have q:=HD.out
 by_cases c0:r = 0
 · subst c0; exact .inl ⟨by rw [q]; rfl,rfl⟩
 · exact .inr ⟨by rw [q,if_neg c0],by simp [c0]⟩
theorem robject_4 {P:World → Prop} {w:World} {M:Array Value} {d:MsgD} (hP:∀ W,Wider w W → P W) (R:∀ W,P W → RepD W M d) (s:ByteArray) (hs:s.size ≤ 65535) :
 Calls Tryz.prog 94 #[.agg M,.int .u8 14,.string s] w fun x w' => ObjM P w w' x d 4 s:=by
 obtain ⟨W,B,hW,hB,G,h0,hZ,hz⟩:=doc_boxes w M
 have n2:B + 1 ≠ B:=by omega
 have wB:Hid (w.heap.size ≤ B):=Lib.hid (by omega)
 have hzB:=Lib.hid (And.intro hz (Nat.lt_of_succ_lt hz))
 have sM:=(R w (hP w (Wider.refl w))).size
 obtain ⟨vs,r,hr⟩ : ∃ vs r,decG csBlock s.data.toList = (vs,r):=⟨_,_,rfl⟩
 have zi:=repBlock_oread s W (by omega) hr
 have hd:=dec_obj 65535 4 s (vs:=vs) (r:=r) hr
 have HD:=Lib.hid hd
 have RW:=Lib.hid R
 clear hr hd R hz
 go_enter Tryz.func94,Tryz.ntmps94
 go_upto_region 1 with (fail)
 try rw [hW]
 try rw [hB]
 clear hW
 obtain ⟨B2,hB2⟩ : ∃ B2,B + 1 = B2:=⟨_,rfl⟩
 rw [hB2] at hZ hzB n2 ⊢
 have wB2:Hid (w.heap.size ≤ B2):=Lib.hid (by have:=wB.out; omega)
 clear hB2
 go_upto_region 18 with (first
  | (go_at_call 145; (with_reducible refine zi.mono ?_); rintro e w1 ⟨c,rfl,g1,hR⟩; have HR:=Lib.hid hR; clear hR; have h1:=wide_blk h0 g1; have sc:=(HR.out _ (Keeps.refl _ _)).size; have oc:=(HR.out _ (Keeps.refl _ _)).one)
  | (with_reducible refine wpList_field rfl 51 (.tmp 3) 15 rfl B 0 41 rfl (fieldM15 _) ?_)
  | (with_reducible refine wpList_store_part rfl 42 _ _ rfl B 41 c rfl rfl 51 M h1 (by rw [sc]; kernel_rfl) (by rw [sc,sM]; decide) oc (new:=setPart M 41 c) rfl ?_))
 obtain ⟨g2,h2⟩:=setRow_facts (setPart M 41 c) h1
 have hZ2:=but_blk (wide_blk hZ g1) g2 n2
 obtain ⟨M2,hM2⟩ : ∃ M2,setPart M 41 c = M2:=⟨_,rfl⟩
 have R2:∀ W',P W' → Keeps W.heap.size w1 W' → RepD W' M2 (d.setN 13 (.obj vs)):=fun W' g kp => by rw [← hM2]; exact RepD.set13 (RW.out W' g) (HR.out W' kp)
 rw [hM2] at h2 g2 hZ2 ⊢
 obtain ⟨w2,hw2⟩ : ∃ w2,World.setRow w1 B M2 = w2:=⟨_,rfl⟩
 rw [hw2] at h2 g2 hZ2 ⊢
 have G2:=g2.wider (G.trans g1) (by intro i m; obtain rfl:=List.mem_singleton.1 m; exact wB.out)
 have K2:Keeps W.heap.size w1 w2:=g2.keeps hzB.out.2
 have R3:=R2 w2 (hP _ G2) K2
 have s2:=R3.size
 have o2:=R3.one
 have HR2:=Lib.hid R2
 have HK2:=Lib.hid K2
 clear R2 R3 K2 hw2 hM2 sc oc HR g2
 go_wp2_with (first
  | (with_reducible refine wpList_load_row rfl 51 _ rfl B rfl 51 M2 (0,0) _ h2 Tryz.underlying51 rfl (by rw [s2]; kernel_rfl) ?_)
  | (with_reducible refine wpList_store_row rfl 51 _ _ rfl B2 M2 rfl rfl 51 zM hZ2 (by rw [s2]; kernel_rfl) (by rw [s2]; exact zM_size) o2 ?_))
 obtain ⟨g6,h6⟩:=setRow_facts M2 hZ2
 have G6:=g6.wider G2 (by intro i m; obtain rfl:=List.mem_singleton.1 m; exact wB2.out)
 have hl:=run_loadVar_row (P:=Tryz.prog) _ B2 51 51 _ (0,0) _ h6 Tryz.underlying51 rfl (by rw [s2]; kernel_rfl)
 have R6:=fun W' (gv:P W') kp => HR2.out W' gv (HK2.out.trans ((g6.keeps hzB.out.1).trans (Keeps.less kp G.2)))
 clear HR2 HK2
 simp [bodyPost,results,Tryz.results94,asAddr,hl]
 refine ⟨_,vs,_,rfl,G6,R6,?_⟩
 have q:=HD.out
 by_cases c0:r = 0
 · subst c0; exact .inl ⟨by rw [q]; rfl,rfl⟩
 · exact .inr ⟨by rw [q,if_neg c0],by simp [c0]⟩
theorem robject_5 {P:World → Prop} {w:World} {M:Array Value} {d:MsgD} (hP:∀ W,Wider w W → P W) (R:∀ W,P W → RepD W M d) (s:ByteArray) (hs:s.size ≤ 65535) :
 Calls Tryz.prog 94 #[.agg M,.int .u8 15,.string s] w fun x w' => ObjM P w w' x d 5 s:=by
 obtain ⟨W,B,hW,hB,G,h0,hZ,hz⟩:=doc_boxes w M
 have n2:B + 1 ≠ B:=by omega
 have wB:Hid (w.heap.size ≤ B):=Lib.hid (by omega)
 have hzB:=Lib.hid (And.intro hz (Nat.lt_of_succ_lt hz))
 have sM:=(R w (hP w (Wider.refl w))).size
 obtain ⟨vs,r,hr⟩ : ∃ vs r,decG csGroup s.data.toList = (vs,r):=⟨_,_,rfl⟩
 have zi:=repGroup_oread s W (by omega) hr
 have hd:=dec_obj 65535 5 s (vs:=vs) (r:=r) hr
 have HD:=Lib.hid hd
 have RW:=Lib.hid R
 clear hr hd R hz
 go_enter Tryz.func94,Tryz.ntmps94
 go_upto_region 1 with (fail)
 try rw [hW]
 try rw [hB]
 clear hW
 obtain ⟨B2,hB2⟩ : ∃ B2,B + 1 = B2:=⟨_,rfl⟩
 rw [hB2] at hZ hzB n2 ⊢
 have wB2:Hid (w.heap.size ≤ B2):=Lib.hid (by have:=wB.out; omega)
 clear hB2
 go_upto_region 18 with (first
  | (go_at_call 146; (with_reducible refine zi.mono ?_); rintro e w1 ⟨c,rfl,g1,hR⟩; have HR:=Lib.hid hR; clear hR; have h1:=wide_blk h0 g1; have sc:=(HR.out _ (Keeps.refl _ _)).size; have oc:=(HR.out _ (Keeps.refl _ _)).one)
  | (with_reducible refine wpList_field rfl 51 (.tmp 3) 16 rfl B 0 43 rfl (fieldM16 _) ?_)
  | (with_reducible refine wpList_store_part rfl 45 _ _ rfl B 43 c rfl rfl 51 M h1 (by rw [sc]; kernel_rfl) (by rw [sc,sM]; decide) oc (new:=setPart M 43 c) rfl ?_))
 obtain ⟨g2,h2⟩:=setRow_facts (setPart M 43 c) h1
 have hZ2:=but_blk (wide_blk hZ g1) g2 n2
 obtain ⟨M2,hM2⟩ : ∃ M2,setPart M 43 c = M2:=⟨_,rfl⟩
 have R2:∀ W',P W' → Keeps W.heap.size w1 W' → RepD W' M2 (d.setN 14 (.obj vs)):=fun W' g kp => by rw [← hM2]; exact RepD.set14 (RW.out W' g) (HR.out W' kp)
 rw [hM2] at h2 g2 hZ2 ⊢
 obtain ⟨w2,hw2⟩ : ∃ w2,World.setRow w1 B M2 = w2:=⟨_,rfl⟩
 rw [hw2] at h2 g2 hZ2 ⊢
 have G2:=g2.wider (G.trans g1) (by intro i m; obtain rfl:=List.mem_singleton.1 m; exact wB.out)
 have K2:Keeps W.heap.size w1 w2:=g2.keeps hzB.out.2
 have R3:=R2 w2 (hP _ G2) K2
 have s2:=R3.size
 have o2:=R3.one
 have HR2:=Lib.hid R2
 have HK2:=Lib.hid K2
 clear R2 R3 K2 hw2 hM2 sc oc HR g2
 go_wp2_with (first
  | (with_reducible refine wpList_load_row rfl 51 _ rfl B rfl 51 M2 (0,0) _ h2 Tryz.underlying51 rfl (by rw [s2]; kernel_rfl) ?_)
  | (with_reducible refine wpList_store_row rfl 51 _ _ rfl B2 M2 rfl rfl 51 zM hZ2 (by rw [s2]; kernel_rfl) (by rw [s2]; exact zM_size) o2 ?_))
 obtain ⟨g6,h6⟩:=setRow_facts M2 hZ2
 have G6:=g6.wider G2 (by intro i m; obtain rfl:=List.mem_singleton.1 m; exact wB2.out)
 have hl:=run_loadVar_row (P:=Tryz.prog) _ B2 51 51 _ (0,0) _ h6 Tryz.underlying51 rfl (by rw [s2]; kernel_rfl)
 have R6:=fun W' (gv:P W') kp => HR2.out W' gv (HK2.out.trans ((g6.keeps hzB.out.1).trans (Keeps.less kp G.2)))
 clear HR2 HK2
 simp [bodyPost,results,Tryz.results94,asAddr,hl]
 refine ⟨_,vs,_,rfl,G6,R6,?_⟩
 have q:=HD.out
 by_cases c0:r = 0
 · subst c0; exact .inl ⟨by rw [q]; rfl,rfl⟩
 · exact .inr ⟨by rw [q,if_neg c0],by simp [c0]⟩
theorem robject_6 {P:World → Prop} {w:World} {M:Array Value} {d:MsgD} (hP:∀ W,Wider w W → P W) (R:∀ W,P W → RepD W M d) (s:ByteArray) (hs:s.size ≤ 65535) :
 Calls Tryz.prog 94 #[.agg M,.int .u8 16,.string s] w fun x w' => ObjM P w w' x d 6 s:=by
 obtain ⟨W,B,hW,hB,G,h0,hZ,hz⟩:=doc_boxes w M
 have n2:B + 1 ≠ B:=by omega
 have wB:Hid (w.heap.size ≤ B):=Lib.hid (by omega)
 have hzB:=Lib.hid (And.intro hz (Nat.lt_of_succ_lt hz))
 have sM:=(R w (hP w (Wider.refl w))).size
 obtain ⟨vs,r,hr⟩ : ∃ vs r,decG csMeter s.data.toList = (vs,r):=⟨_,_,rfl⟩
 have zi:=repMeter_oread s W (by omega) hr
 have hd:=dec_obj 65535 6 s (vs:=vs) (r:=r) hr
 have HD:=Lib.hid hd
 have RW:=Lib.hid R
 clear hr hd R hz
 go_enter Tryz.func94,Tryz.ntmps94
 go_upto_region 1 with (fail)
 try rw [hW]
 try rw [hB]
 clear hW
 obtain ⟨B2,hB2⟩ : ∃ B2,B + 1 = B2:=⟨_,rfl⟩
 rw [hB2] at hZ hzB n2 ⊢
 have wB2:Hid (w.heap.size ≤ B2):=Lib.hid (by have:=wB.out; omega)
 clear hB2
 go_upto_region 18 with (first
  | (go_at_call 147; (with_reducible refine zi.mono ?_); rintro e w1 ⟨c,rfl,g1,hR⟩; have HR:=Lib.hid hR; clear hR; have h1:=wide_blk h0 g1; have sc:=(HR.out _ (Keeps.refl _ _)).size; have oc:=(HR.out _ (Keeps.refl _ _)).one)
  | (with_reducible refine wpList_field rfl 51 (.tmp 3) 17 rfl B 0 47 rfl (fieldM17 _) ?_)
  | (with_reducible refine wpList_store_part rfl 47 _ _ rfl B 47 c rfl rfl 51 M h1 (by rw [sc]; kernel_rfl) (by rw [sc,sM]; decide) oc (new:=setPart M 47 c) rfl ?_))
 obtain ⟨g2,h2⟩:=setRow_facts (setPart M 47 c) h1
 have hZ2:=but_blk (wide_blk hZ g1) g2 n2
 obtain ⟨M2,hM2⟩ : ∃ M2,setPart M 47 c = M2:=⟨_,rfl⟩
 have R2:∀ W',P W' → Keeps W.heap.size w1 W' → RepD W' M2 (d.setN 15 (.obj vs)):=fun W' g kp => by rw [← hM2]; exact RepD.set15 (RW.out W' g) (HR.out W' kp)
 rw [hM2] at h2 g2 hZ2 ⊢
 obtain ⟨w2,hw2⟩ : ∃ w2,World.setRow w1 B M2 = w2:=⟨_,rfl⟩
 rw [hw2] at h2 g2 hZ2 ⊢
 have G2:=g2.wider (G.trans g1) (by intro i m; obtain rfl:=List.mem_singleton.1 m; exact wB.out)
 have K2:Keeps W.heap.size w1 w2:=g2.keeps hzB.out.2
 have R3:=R2 w2 (hP _ G2) K2
 have s2:=R3.size
 have o2:=R3.one
 have HR2:=Lib.hid R2
 have HK2:=Lib.hid K2
 clear R2 R3 K2 hw2 hM2 sc oc HR g2
 go_wp2_with (first
  | (with_reducible refine wpList_load_row rfl 51 _ rfl B rfl 51 M2 (0,0) _ h2 Tryz.underlying51 rfl (by rw [s2]; kernel_rfl) ?_)
  | (with_reducible refine wpList_store_row rfl 51 _ _ rfl B2 M2 rfl rfl 51 zM hZ2 (by rw [s2]; kernel_rfl) (by rw [s2]; exact zM_size) o2 ?_))
 obtain ⟨g6,h6⟩:=setRow_facts M2 hZ2
 have G6:=g6.wider G2 (by intro i m; obtain rfl:=List.mem_singleton.1 m; exact wB2.out)
 have hl:=run_loadVar_row (P:=Tryz.prog) _ B2 51 51 _ (0,0) _ h6 Tryz.underlying51 rfl (by rw [s2]; kernel_rfl)
 have R6:=fun W' (gv:P W') kp => HR2.out W' gv (HK2.out.trans ((g6.keeps hzB.out.1).trans (Keeps.less kp G.2)))
 clear HR2 HK2
 simp [bodyPost,results,Tryz.results94,asAddr,hl]
 refine ⟨_,vs,_,rfl,G6,R6,?_⟩
 have q:=HD.out
 by_cases c0:r = 0
 · subst c0; exact .inl ⟨by rw [q]; rfl,rfl⟩
 · exact .inr ⟨by rw [q,if_neg c0],by simp [c0]⟩
theorem robject_7 {P:World → Prop} {w:World} {M:Array Value} {d:MsgD} (hP:∀ W,Wider w W → P W) (R:∀ W,P W → RepD W M d) (s:ByteArray) (hs:s.size ≤ 65535) (t:Nat) (ht:t < 10 ∨ 17 ≤ t) :
 Calls Tryz.prog 94 #[.agg M,.int .u8 (t:Int),.string s] w fun x w' => ObjM P w w' x d 7 s:=by
 have k10:((t:Int) == 10) = false:=by rw [beq_eq_false_iff_ne]; omega
 have k11:((t:Int) == 11) = false:=by rw [beq_eq_false_iff_ne]; omega
 have k12:((t:Int) == 12) = false:=by rw [beq_eq_false_iff_ne]; omega
 have k13:((t:Int) == 13) = false:=by rw [beq_eq_false_iff_ne]; omega
 have k14:((t:Int) == 14) = false:=by rw [beq_eq_false_iff_ne]; omega
 have k15:((t:Int) == 15) = false:=by rw [beq_eq_false_iff_ne]; omega
 have k16:((t:Int) == 16) = false:=by rw [beq_eq_false_iff_ne]; omega
 obtain ⟨W,B,hW,hB,G,h0,hZ,hz⟩:=doc_boxes w M
 have n2:B + 1 ≠ B:=by omega
 have wB:Hid (w.heap.size ≤ B):=Lib.hid (by omega)
 have hzB:=Lib.hid (And.intro hz (Nat.lt_of_succ_lt hz))
 have sM:=(R w (hP w (Wider.refl w))).size
 obtain ⟨vs,r,hr⟩ : ∃ vs r,decG csRegs s.data.toList = (vs,r):=⟨_,_,rfl⟩
 have zi:=repRegs_oread s W (by omega) hr
 have hd:=dec_obj 65535 7 s (vs:=vs) (r:=r) hr
 have HD:=Lib.hid hd
 have RW:=Lib.hid R
 clear hr hd R hz
 go_enter Tryz.func94,Tryz.ntmps94
 go_upto_region 1 with (fail)
 try rw [hW]
 try rw [hB]
 clear hW
 obtain ⟨B2,hB2⟩ : ∃ B2,B + 1 = B2:=⟨_,rfl⟩
 rw [hB2] at hZ hzB n2 ⊢
 have wB2:Hid (w.heap.size ≤ B2):=Lib.hid (by have:=wB.out; omega)
 clear hB2
 go_upto_region 18 with (first
  | (go_at_call 148; (with_reducible refine zi.mono ?_); rintro e w1 ⟨c,rfl,g1,hR⟩; have HR:=Lib.hid hR; clear hR; have h1:=wide_blk h0 g1; have sc:=(HR.out _ (Keeps.refl _ _)).size; have oc:=(HR.out _ (Keeps.refl _ _)).one)
  | (with_reducible refine wpList_field rfl 51 (.tmp 3) 18 rfl B 0 50 rfl (fieldM18 _) ?_)
  | (with_reducible refine wpList_store_part rfl 49 _ _ rfl B 50 c rfl rfl 51 M h1 (by rw [sc]; kernel_rfl) (by rw [sc,sM]; decide) oc (new:=setPart M 50 c) rfl ?_))
 obtain ⟨g2,h2⟩:=setRow_facts (setPart M 50 c) h1
 have hZ2:=but_blk (wide_blk hZ g1) g2 n2
 obtain ⟨M2,hM2⟩ : ∃ M2,setPart M 50 c = M2:=⟨_,rfl⟩
 have R2:∀ W',P W' → Keeps W.heap.size w1 W' → RepD W' M2 (d.setN 16 (.obj vs)):=fun W' g kp => by rw [← hM2]; exact RepD.set16 (RW.out W' g) (HR.out W' kp)
 rw [hM2] at h2 g2 hZ2 ⊢
 obtain ⟨w2,hw2⟩ : ∃ w2,World.setRow w1 B M2 = w2:=⟨_,rfl⟩
 rw [hw2] at h2 g2 hZ2 ⊢
 have G2:=g2.wider (G.trans g1) (by intro i m; obtain rfl:=List.mem_singleton.1 m; exact wB.out)
 have K2:Keeps W.heap.size w1 w2:=g2.keeps hzB.out.2
 have R3:=R2 w2 (hP _ G2) K2
 have s2:=R3.size
 have o2:=R3.one
 have HR2:=Lib.hid R2
 have HK2:=Lib.hid K2
 clear R2 R3 K2 hw2 hM2 sc oc HR g2
 go_wp2_with (first
  | (with_reducible refine wpList_load_row rfl 51 _ rfl B rfl 51 M2 (0,0) _ h2 Tryz.underlying51 rfl (by rw [s2]; kernel_rfl) ?_)
  | (with_reducible refine wpList_store_row rfl 51 _ _ rfl B2 M2 rfl rfl 51 zM hZ2 (by rw [s2]; kernel_rfl) (by rw [s2]; exact zM_size) o2 ?_))
 obtain ⟨g6,h6⟩:=setRow_facts M2 hZ2
 have G6:=g6.wider G2 (by intro i m; obtain rfl:=List.mem_singleton.1 m; exact wB2.out)
 have hl:=run_loadVar_row (P:=Tryz.prog) _ B2 51 51 _ (0,0) _ h6 Tryz.underlying51 rfl (by rw [s2]; kernel_rfl)
 have R6:=fun W' (gv:P W') kp => HR2.out W' gv (HK2.out.trans ((g6.keeps hzB.out.1).trans (Keeps.less kp G.2)))
 clear HR2 HK2
 simp [bodyPost,results,Tryz.results94,asAddr,hl]
 refine ⟨_,vs,_,rfl,G6,R6,?_⟩
 have q:=HD.out
 by_cases c0:r = 0
 · subst c0; exact .inl ⟨by rw [q]; rfl,rfl⟩
 · exact .inr ⟨by rw [q,if_neg c0],by simp [c0]⟩
end Go.Proofs.YtoopdhgmdjienaaGreatDoor
