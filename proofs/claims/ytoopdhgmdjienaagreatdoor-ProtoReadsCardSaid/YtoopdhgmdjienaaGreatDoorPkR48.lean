/- PDocD UDraw USpec UFrame -/
import Derived.Test.YtoopdhgmdjienaaGreatDoorPkR40
import Derived.Test.YtoopdhgmdjienaaGreatDoorPkR47
import Derived.Great.Frames
namespace Go.Proofs.YtoopdhgmdjienaaGreatDoor
set_option linter.unusedVariables false
set_option maxRecDepth 20000
open Go.ChangeShapes Go.WideShapes Go.ChangeAt Go.RowKit Go.Joins
open Go.ChangeMaps (open_string shut_string)
set_option maxHeartbeats 64000000
def DocR (w w':World) (e:Ending) (k x:Nat) (ps:List PartN) (r:Nat):Prop :=
 ∃ M d,e = .returned (.tuple #[.agg M,.int .i64 (r:Int)]) ∧ Wider w w' ∧ RepD w' M d ∧ d.kind = (k:Int) ∧ d.xid = (x:Int) ∧ d.ps = ps
def DocS (w w':World) (e:Ending) (k x:Nat) (m:List AtN) (c:Nat):Prop :=
 (c = 0 ∧ ∃ ps,readG (csM 65535 k) zeroP m = some ps ∧ DocR w w' e k x ps 0) ∨ (c = 0 ∧ readG (csM 65535 k) zeroP m = none ∧ DocR w w' e 0 0 zeroP 3) ∨ (c ≠ 0 ∧ DocR w w' e 0 0 zeroP c)
theorem rdec_short (s:ByteArray) (w:World) (h:s.size < 5) :
 Calls Tryz.prog 21 #[.string s] w fun e w' => DocR w w' e 0 0 zeroP 4:=by
 have h0:=((Own.nil (Wider.refl w)).blk zM 51)
 have h2:=h0.head
 have hw:=h0.wider
 have c1:(s.size:Int) < 5:=by omega
 clear h0
 go_enter Tryz.func21,Tryz.ntmps21
 go_wp2_with (first
  | (with_reducible refine wpList_run_val rfl 51 #[] rfl (ps:=#[]) rfl (build0 _) ?_)
  | (with_reducible refine wpList_store_row rfl 51 (.tmp 2) (.tmp 14) rfl w.heap.size zM rfl rfl 51 zM h2 (by kernel_rfl) rfl zM_all ?_; obtain ⟨g5,h5⟩:=setRow_facts zM h2))
 have hl:=run_loadVar_row (P:=Tryz.prog) _ w.heap.size 51 51 _ (0,0) _ h5 Tryz.underlying51 rfl (by kernel_rfl)
 have W5:=g5.wider hw (by intro i m; simp only [List.mem_singleton] at m; omega)
 simp [bodyPost,results,Tryz.results21,asAddr,hl]
 exact ⟨_,_,rfl,W5,(zM_repK 0 _).here,rfl,rfl,rfl⟩
theorem rdec_long (s:ByteArray) (w:World) (h:16384 < s.size) (hs:s.size < 1000000) :
 Calls Tryz.prog 21 #[.string s] w fun e w' => DocR w w' e 0 0 zeroP 5:=by
 have H0:=((Own.nil (Wider.refl w)).blk zM 51)
 have h2:=H0.head
 have hw:=H0.wider
 have c1:¬ (s.size:Int) < 5:=by omega
 have c2:(16384:Int) < (s.size:Int):=by omega
 clear H0
 go_enter Tryz.func21,Tryz.ntmps21
 go_wp2_with (first
  | (with_reducible refine wpList_run_val rfl 51 #[] rfl (ps:=#[]) rfl (build0 _) ?_)
  | (with_reducible refine wpList_store_row rfl 51 (.tmp 2) (.tmp 18) rfl w.heap.size zM rfl rfl 51 zM h2 (by kernel_rfl) rfl zM_all ?_; obtain ⟨g5,h5⟩:=setRow_facts zM h2))
 have hl:=run_loadVar_row (P:=Tryz.prog) _ w.heap.size 51 51 _ (0,0) _ h5 Tryz.underlying51 rfl (by kernel_rfl)
 have W5:=g5.wider hw (by intro i m; simp only [List.mem_singleton] at m; omega)
 simp [bodyPost,results,Tryz.results21,asAddr,hl]
 exact ⟨_,_,rfl,W5,(zM_repK 0 _).here,rfl,rfl,rfl⟩
theorem rdec_kind (s:ByteArray) (w:World) (h0:5 ≤ s.size) (h1:s.size ≤ 16384) {a:UInt8} {r:List UInt8} (hL:s.data.toList = a :: r) {k:Nat} (hk:a.toNat = k) (k9:k < 256) (kn:¬ (1 ≤ k ∧ k ≤ 46)) :
 Calls Tryz.prog 21 #[.string s] w fun e w' => DocR w w' e 0 0 zeroP 15:=by
 have H0:=(((Own.nil (Wider.refl w)).blk zM 51).blk zM 51)
 have z1:(w.alloc (.cells zM 51)).heap.size = w.heap.size + 1:=by simp
 rw [z1] at H0
 have h2:=H0.head
 have h3:=H0.second
 have hw:=H0.wider
 have k8:k < 256:=by omega
 have lr:r.length + 1 = s.size:=by rw [size_data,hL]; simp
 have c1:¬ (s.size:Int) < 5:=by omega
 have c2:¬ (16384:Int) < (s.size:Int):=by omega
 have s0:s[0]'(by omega) = a:=by
  have e:s[0]'(by omega) = s.data.toList[0]'(by rw [hL]; simp):=rfl
  rw [e]; simp [hL]
 have b0:(s[0]'(by omega)).toNat = k:=by rw [s0,hk]
 have zk:=fun W => rknown_c W k k8 (r:=false) (by simp only [decide_eq_false kn])
 have ne:w.heap.size ≠ w.heap.size + 1:=by omega
 clear s0 hk H0 z1
 go_enter Tryz.func21,Tryz.ntmps21
 go_upto_region 6 with (first
  | (with_reducible refine wpList_run_val rfl 51 #[(0,.tmp 20)] rfl (ps:=#[(0,.int .u8 (k:Int))]) rfl (buildKind _ _) ?_)
  | (with_reducible refine wpList_store_row rfl 51 (.tmp 4) (.tmp 21) rfl (w.heap.size + 1) (zM.setIfInBounds 0 (.int .u8 (k:Int))) rfl rfl 51 zM h2 (by kernel_rfl) rfl (oneKind _) ?_; obtain ⟨g1,h4⟩:=setRow_facts (zM.setIfInBounds 0 (.int .u8 (k:Int))) h2))
 obtain ⟨W4,hW4⟩ : ∃ W4,World.setRow ((w.alloc (.cells zM 51)).alloc (.cells zM 51)) (w.heap.size + 1) (zM.setIfInBounds 0 (.int .u8 (k:Int))) = W4:=⟨_,rfl⟩
 have h5:=but_blk h3 g1 ne
 have hw1:=g1.wider hw (by intro i m; simp only [List.mem_singleton] at m; omega)
 rw [hW4] at h4 h5 hw1
 rw [hW4]
 obtain ⟨B,hB⟩ : ∃ B,w.heap.size = B:=⟨_,rfl⟩
 rw [hB] at h4 h5
 rw [hB]
 have hB0:w.heap.size ≤ B:=by omega
 have q0:=blk_cell h4 0 (v:=.int .u8 (k:Int)) rfl
 clear hW4 hB g1 h2 h3 hw ne b0
 go_wp2_with (first
  | (with_reducible refine wpList_field rfl 51 (.tmp 4) 0 rfl (B + 1) 0 0 rfl (fieldM0 _) ?_)
  | (go_at_call 27; (with_reducible refine (zk _).mono ?_); rintro e w1 ⟨rfl,g2⟩; have h6:=wide_blk h5 g2; have hw2:=hw1.trans g2)
  | (with_reducible refine wpList_run_val rfl 51 #[] rfl (ps:=#[]) rfl (build0 _) ?_)
  | (with_reducible refine wpList_store_row rfl 51 (.tmp 2) (.tmp 26) rfl B zM rfl rfl 51 zM h6 (by kernel_rfl) rfl zM_all ?_; obtain ⟨g5,h7⟩:=setRow_facts zM h6))
 have hl:=run_loadVar_row (P:=Tryz.prog) _ B 51 51 _ (0,0) _ h7 Tryz.underlying51 rfl (by kernel_rfl)
 have W5:=g5.wider hw2 (by intro i m; simp only [List.mem_singleton] at m; omega)
 simp [bodyPost,results,Tryz.results21,asAddr,hl]
 exact ⟨_,_,rfl,W5,(zM_repK 0 _).here,rfl,rfl,rfl⟩
end Go.Proofs.YtoopdhgmdjienaaGreatDoor
namespace Go.Proofs.YtoopdhgmdjienaaGreatDoor
set_option linter.unusedVariables false
open Go.RowKit
set_option maxHeartbeats 64000000
section
variable {P:Program} {ops:Array Oper} {md:Region.Mode} {Q:Exit → Act → World → Prop}
def undone (listed:Array Bool):Nat:=listed.toList.countP (fun b => !b)
theorem undone_set {listed:Array Bool} {i:Nat} (h:listed.getD i true = false):undone (listed.setIfInBounds i true) + 1 = undone listed:=by
 have hi:i < listed.size:=by
  rcases Nat.lt_or_ge i listed.size with c | c
  · exact c
  · rw [Array.getD_eq_getD_getElem?,Array.getElem?_eq_none c] at h; cases h
 have hv:listed.toList[i]? = some false:=by
  rw [Array.getD_eq_getD_getElem?,Array.getElem?_eq_getElem hi] at h
  rw [Array.getElem?_toList,Array.getElem?_eq_getElem hi]
  simpa using h
 unfold undone
 rw [Array.toList_setIfInBounds]
 have key:∀ (l:List Bool) (i:Nat),l[i]? = some false → (l.set i true).countP (fun b => !b) + 1 = l.countP (fun b => !b):=by
  intro l
  induction l with
  | nil => intro i h; simp at h
  | cons b l ih =>
    intro i h
    cases i with
    | zero =>
      obtain rfl:b = false:=by simpa using h
      simp
    | succ i =>
      have:=ih i (by simpa using h)
      rw [List.set_cons_succ,List.countP_cons,List.countP_cons]
      omega
 exact key _ _ hv
theorem ready_left {listed:Array Bool} {i:Nat} (h:i ∈ Region.ready md ops listed):listed.getD i true = false:=(mem_ready.1 h).1
theorem wpAny_inv (I:Array Bool → Act → World → Prop) (done:∀ listed a w,I listed a w → Region.ready md ops listed = [] → Q .normal a w)
 (step:∀ listed a w i,I listed a w → i ∈ Region.ready md ops listed → wpOp P ops Q i (I (listed.setIfInBounds i true)) a w) :
 ∀ (fuel:Nat) (listed:Array Bool) (a:Act) (w:World),undone listed ≤ fuel → I listed a w → wpAny P md ops Q fuel listed a w
 | 0,listed,a,w,hu,h => by
   have e:Region.ready md ops listed = []:=by
    cases q:Region.ready md ops listed with
    | nil => rfl
    | cons i l =>
      have:=undone_set (ready_left (md:=md) (ops:=ops) (listed:=listed) (i:=i) (by rw [q]; exact .head _))
      omega
   exact ⟨e,done _ _ _ h e⟩
 | fuel + 1,listed,a,w,hu,h => by
   refine ⟨done _ _ _ h,fun i hi => wpOp_mono (fun a' w' h' => wpAny_inv I done step fuel _ a' w' ?_ h') (step _ _ _ _ h hi)⟩
   have:=undone_set (ready_left hi)
   omega
theorem wp_region_inv {id:Nat} {a:Act} {w:World} (I:Array Bool → Act → World → Prop) (hm:P.follows .mixedOrders = true)
 (done:∀ listed a w,I listed a w → Region.ready .any ops listed = [] → Q .normal a w)
 (step:∀ listed a w i,I listed a w → i ∈ Region.ready .any ops listed → wpOp P ops Q i (I (listed.setIfInBounds i true)) a w)
 (start:I (Array.replicate ops.size false) a w.drew):(Code.region id ops true).wp P Q a w:=by
 refine wp_region_any hm (wpAny_inv I done step _ _ _ _ ?_ start)
 unfold undone
 exact Nat.le_trans List.countP_le_length (by simp)
theorem wpOp_of {i:Nat} {o:Oper} {K:Act → World → Prop} {a:Act} {w:World} (ho:ops[i]? = some o) (hw:Region.wanted o (yielded ops a.tmps) = true) (h:o.wp P a w K Q):wpOp P ops Q i K a w:=by
 unfold wpOp
 rw [ho]
 simp only [hw,if_true]
 exact .inl h
theorem wanted_plain {o:Oper} {y:Nat → Option Bool} (h:o.guard = none):Region.wanted o y = true:=by simp [Region.wanted,h]
theorem wp_val {o:Oper} {K:Act → World → Prop} {a:Act} {w w':World} {v:Value} (h:(execOp a.eval o).run P w = .ok (.value v) w') (hK:K (a.put o.dst v) w'):o.wp P a w K Q:=by
 unfold Oper.wp
 rw [h]
 exact hK
theorem wp_enter {o:Oper} {K:Act → World → Prop} {a:Act} {w:World} {f:FuncId} {args:Array Value} (h:(execOp a.eval o).run P w = .ok (.enter f args) w) (hc:Calls P f args w fun e w' => ∃ v,e = .returned v ∧ K (a.put o.dst v) w'):o.wp P a w K Q:=by
 unfold Oper.wp
 rw [h,Oper.upon_enter]
 refine hc.mono ?_
 rintro e w' ⟨v,rfl,hK⟩
 exact hK
def KnownAt (kv:List (Nat × Nat × Value)) (listed:Array Bool) (a:Act):Prop:=∀ j d v,(j,d,v) ∈ kv → listed.getD j false = true → a.eval (.tmp d) = v
theorem getD_set (listed:Array Bool) (i j:Nat):(listed.setIfInBounds i true).getD j false = true → j = i ∨ listed.getD j false = true:=by
 intro h
 by_cases e:j = i
 · exact .inl e
 · refine .inr ?_
   rw [Array.getD_eq_getD_getElem?,Array.getElem?_setIfInBounds_ne (Ne.symm e)] at h
   rwa [Array.getD_eq_getD_getElem?]
theorem KnownAt.step {kv:List (Nat × Nat × Value)} {listed:Array Bool} {a:Act} (h:KnownAt kv listed a) {i d:Nat} {v:Value} (hd:d < a.tmps.size)
 (hk:∀ j e u,(j,e,u) ∈ kv → (j = i → e = d ∧ u = v) ∧ (j ≠ i → e ≠ d)):KnownAt kv (listed.setIfInBounds i true) (a.put (some d) v):=by
 intro j e u hm hl
 obtain ⟨h1,h2⟩:=hk j e u hm
 by_cases c:j = i
 · obtain ⟨rfl,rfl⟩:=h1 c
   exact Act.eval_put_same _ _ _ hd
 · rw [Act.eval_put_ne _ _ _ _ (fun q => h2 c q.symm)]
   rcases getD_set listed i j hl with q | q
   · exact absurd q c
   · exact h j e u hm q
def RestAt (ds:List Nat) (a0 a:Act):Prop:=a.tmps.size = a0.tmps.size ∧ a.defers = a0.defers ∧ ∀ j,j ∉ ds → a.eval (.tmp j) = a0.eval (.tmp j)
theorem RestAt.refl (ds:List Nat) (a:Act):RestAt ds a a:=⟨rfl,rfl,fun _ _ => rfl⟩
theorem RestAt.put {ds:List Nat} {a0 a:Act} (h:RestAt ds a0 a) {d:Nat} {v:Value} (hd:d ∈ ds):RestAt ds a0 (a.put (some d) v):=by
 obtain ⟨h1,h2,h3⟩:=h
 refine ⟨by rw [← h1]; simp [Act.put],h2,fun j hj => ?_⟩
 rw [Act.eval_put_ne _ _ _ _ (fun q => hj (by rw [← q]; exact hd))]
 exact h3 j hj
theorem RestAt.frame {ds:List Nat} {a0 a:Act} (h:RestAt ds a0 a) (vs:List (Nat × Value)) (hv:∀ d v,(d,v) ∈ vs → a.eval (.tmp d) = v) (hds:∀ d ∈ ds,∃ v,(d,v) ∈ vs) (hone:vs.Pairwise fun x y => x.1 ≠ y.1) (hin:∀ x ∈ vs,x.1 < a0.tmps.size) :
 a = { tmps:=vs.foldl (fun t x => t.setIfInBounds x.1 x.2) a0.tmps,defers:=a0.defers } :=by
 obtain ⟨h1,h2,h3⟩:=h
 obtain ⟨tmps,defers⟩:=a
 have h2:defers = a0.defers:=h2
 have h1:tmps.size = a0.tmps.size:=h1
 subst h2
 congr 1
 have size:∀ (vs:List (Nat × Value)) (t:Array Value),(vs.foldl (fun t x => t.setIfInBounds x.1 x.2) t).size = t.size:=by
  intro vs
  induction vs with
  | nil => intro t; rfl
  | cons x vs ih => intro t; rw [List.foldl_cons,ih]; simp
 have at_:∀ (vs:List (Nat × Value)) (t:Array Value),(vs.Pairwise fun x y => x.1 ≠ y.1) → (∀ x ∈ vs,x.1 < t.size) → ∀ j,(vs.foldl (fun t x => t.setIfInBounds x.1 x.2) t).getD j undef = ((vs.find? fun x => x.1 == j).map (·.2)).getD (t.getD j undef):=by
  intro vs
  induction vs with
  | nil => intro t _ _ j; rfl
  | cons x vs ih =>
    intro t hp hi j
    obtain ⟨p1,p2⟩:=List.pairwise_cons.1 hp
    rw [List.foldl_cons,ih _ p2 (fun y hy => by simpa using hi y (.tail _ hy)) j]
    by_cases e:x.1 = j
    · have n:vs.find? (fun y => y.1 == j) = none:=List.find?_eq_none.2 fun y hy => by
       have:=p1 y hy
       simp; intro q; exact this (e.trans q.symm)
      rw [n,List.find?_cons_of_pos (by simpa using e)]
      subst e
      have hx:=hi x (.head _)
      simp [Array.getD_eq_getD_getElem?,hx]
    · rw [List.find?_cons_of_neg (by simpa using e)]
      congr 1
      rw [Array.getD_eq_getD_getElem?,Array.getElem?_setIfInBounds_ne e,Array.getD_eq_getD_getElem?]
 apply Array.ext
 · rw [size,h1]
 · intro j hj1 hj2
   have e1:tmps[j] = tmps.getD j undef:=by rw [Array.getD_eq_getD_getElem?,Array.getElem?_eq_getElem hj1]; rfl
   have e2:(vs.foldl (fun t x => t.setIfInBounds x.1 x.2) a0.tmps)[j] = (vs.foldl (fun t x => t.setIfInBounds x.1 x.2) a0.tmps).getD j undef:=by rw [Array.getD_eq_getD_getElem?,Array.getElem?_eq_getElem hj2]; rfl
   rw [e1,e2,at_ vs a0.tmps hone hin j]
   cases q:vs.find? fun x => x.1 == j with
   | none =>
     have nin:j ∉ ds:=fun m => by
      obtain ⟨v,hm⟩:=hds j m
      have:=List.find?_eq_none.1 q _ hm
      simp at this
     exact h3 j nin
   | some x =>
     have e:x.1 = j:=by simpa using List.find?_some q
     have m:=List.mem_of_find?_eq_some q
     subst e
     exact hv x.1 x.2 m
theorem ready_pred {listed:Array Bool} {i:Nat} {o:Oper} (hi:i ∈ Region.ready md ops listed) (ho:ops[i]? = some o) (j:Nat) (hj:(o.after.toList.any fun e => e.on == j && Region.binds md e) = true):listed.getD j false = true:=by
 obtain ⟨_,o',ho',h⟩:=mem_ready.1 hi
 obtain rfl:o = o':=Option.some.inj (ho.symm.trans ho')
 obtain ⟨e,he,hb⟩:=List.any_eq_true.1 hj
 rw [Bool.and_eq_true,beq_iff_eq] at hb
 rw [← hb.1]
 exact h e (by simpa using he) hb.2
theorem ready_own {listed:Array Bool} {i:Nat} (hi:i ∈ Region.ready md ops listed):listed.getD i false = false:=by
 have h:=ready_left hi
 rw [Array.getD_eq_getD_getElem?] at h ⊢
 cases q:listed[i]? with
 | none => rfl
 | some b => rw [q] at h; simpa using h
theorem set_other {listed:Array Bool} {i j:Nat} (h:j ≠ i):(listed.setIfInBounds i true).getD j false = listed.getD j false:=by
 rw [Array.getD_eq_getD_getElem?,Array.getElem?_setIfInBounds_ne (Ne.symm h),Array.getD_eq_getD_getElem?]
theorem set_own {listed:Array Bool} {i:Nat} (h:i < listed.size):(listed.setIfInBounds i true).getD i false = true:=by
 rw [Array.getD_eq_getD_getElem?,Array.getElem?_setIfInBounds_self]
 simp [h]
theorem wp_k {o:Oper} {K:Act → World → Prop} {a a':Act} {w w':World} (hK:K a' w') (h:∀ K',K' a' w' → Oper.wp P o a w K' Q):Oper.wp P o a w K Q:=h K hK
theorem gen_act {Φ:Act → Prop} (a:Act) (h:∀ a0,a0 = a → Φ a0):Φ a:=h a rfl
theorem done_all {listed:Array Bool} (hs:listed.size = ops.size) (h:Region.ready md ops listed = []) (hw:∀ l:Array Bool,l.size = ops.size → (∃ i,i < ops.size ∧ l.getD i true = false) → Region.ready md ops l ≠ []):∀ i,i < ops.size → listed.getD i false = true:=by
 intro i hi
 cases q:listed.getD i true with
 | true =>
   rw [Array.getD_eq_getD_getElem?,Array.getElem?_eq_getElem (by omega)] at q ⊢
   simpa using q
 | false => exact absurd h (hw listed hs ⟨i,hi,q⟩)
theorem evalD {a:Act} {d:Nat} {v:Value} (h:a.eval (.tmp d) = v):a.tmps[d]?.getD undef = v:=by
 have h:a.tmps.getD d undef = v:=h
 rwa [Array.getD_eq_getD_getElem?] at h
def downB (md:Region.Mode) (ops:Array Oper):Bool:=(List.range ops.size).all fun i => match ops[i]? with | none => true | some o => o.after.toList.all fun e => !Region.binds md e || decide (e.on < i)
theorem ready_ne {listed:Array Bool} (hs:listed.size = ops.size) (hd:downB md ops = true):∀ (i:Nat),i < ops.size → listed.getD i true = false → Region.ready md ops listed ≠ []:=by
 intro i
 induction i using Nat.strongRecOn with
 | ind i ih =>
   intro hi hl
   have ho:ops[i]? = some ops[i]:=Array.getElem?_eq_getElem hi
   have hdi:=List.all_eq_true.1 hd i (List.mem_range.2 hi)
   rw [ho] at hdi
   have hdi:=List.all_eq_true.1 hdi
   by_cases c:∀ e ∈ ops[i].after,Region.binds md e = true → listed.getD e.on false = true
   · intro q
     have:i ∈ Region.ready md ops listed:=mem_ready.2 ⟨hl,ops[i],ho,fun e he hb => c e he hb⟩
     rw [q] at this
     cases this
   · have ⟨e,hc⟩:=Classical.not_forall.1 c
     have ⟨he,hc⟩:=Classical.not_imp.1 hc
     have ⟨hb,hf⟩:=Classical.not_imp.1 hc
     have lt:e.on < i:=by
      have q:=hdi e (by simpa using he)
      rw [hb] at q
      exact of_decide_eq_true q
     refine ih e.on lt (by omega) ?_
     have hlt:e.on < listed.size:=by omega
     rw [Array.getD_eq_getD_getElem?,Array.getElem?_eq_getElem hlt] at hf ⊢
     simpa using hf
theorem all_done {listed:Array Bool} (hs:listed.size = ops.size) (hd:downB md ops = true) (h:Region.ready md ops listed = []):∀ i,i < ops.size → listed.getD i false = true:=by
 intro i hi
 cases q:listed.getD i true with
 | true =>
   rw [Array.getD_eq_getD_getElem?,Array.getElem?_eq_getElem (by omega)] at q ⊢
   simpa using q
 | false => exact absurd h (ready_ne hs hd i hi q)
end
section
variable {P:Program} {ops:Array Oper} {Q:Exit → Act → World → Prop}
variable {i d:Nat} {o:Oper} {s:Value → World → Prop} {a:Act} {W:World}
theorem run_enter {f : FuncId} (h : (P.funcs[f]?.map fun fn => (fn.name == "runtime.NumGoroutine", fn.body.isNone)) = some (false, false)) (args : Array Value) (w : World) : (callFunc f args).run P w = .ok (.enter f args) w := by
 cases hf:P.funcs[f]? with
 | none => rw [hf] at h; cases h
 | some fn =>
   rw [hf] at h
   simp only [Option.map_some,Option.some.injEq,Prod.mk.injEq] at h
   obtain ⟨h1,h2⟩:=h
   have h3 : fn.name ≠ "runtime.NumGoroutine" := fun e => by rw [e] at h1; cases h1
   have h4:fn.body ≠ none:=fun e => by rw [e] at h2; cases h2
   simp [callFunc,hf,h3,h4]
theorem args2 {x y:Operand} {u v:Value} (h:a.eval x = u) (k:a.eval y = v):(#[x,y] : Array Operand).map a.eval = #[u,v]:=by subst h k; simp
theorem exec_call {f:FuncId} {args:Array Operand} {ts:Array TypeId} {vs:Array Value} (hop:o.op = .call { callee:=.value (.func f),args:=args,argTypes:=ts }) (hx:args.map a.eval = vs)
 (hf : (P.funcs[f]?.map fun fn => (fn.name == "runtime.NumGoroutine", fn.body.isNone)) = some (false, false)) : (execOp a.eval o).run P W = .ok (.enter f vs) W := by
 subst hx
 unfold execOp
 simp [hop,resolve,invoke,Act.eval,Deferred.ofValue,run_enter hf]
theorem exec_move {x:Operand} {v:Value} (hop:o.op = .move x) (hx:a.eval x = v):(execOp a.eval o).run P W = .ok (.value v) W:=by
 unfold execOp; simp only [hop,hx,Sem.run_pure]
theorem exec_assign {x:Operand} {v:Value} (hop:o.op = .assign x) (hx:a.eval x = v):(execOp a.eval o).run P W = .ok (.value v) W:=by
 unfold execOp; simp only [hop,hx,Sem.run_pure]
end
def FactsAt (a:Act) (vs:List (Nat × Value)):Prop:=∀ x ∈ vs,a.eval (.tmp x.1) = x.2
theorem FactsAt.nil {a:Act} : FactsAt a []:=fun _ h => by cases h
theorem FactsAt.cons {a:Act} {d:Nat} {v:Value} {vs:List (Nat × Value)} (h:a.eval (.tmp d) = v) (k:FactsAt a vs):FactsAt a ((d,v) :: vs):=fun x hx => by
 cases hx with
 | head => exact h
 | tail _ hx => exact k x hx
theorem set_fold:∀ (vs:List (Nat × Value)) (ts:List Value),vs.foldl (fun t x => t.setIfInBounds x.1 x.2) ts.toArray = (vs.foldl (fun l x => l.set x.1 x.2) ts).toArray
 | [],_ => rfl
 | x :: vs,ts => by rw [List.foldl_cons,List.foldl_cons,List.setIfInBounds_toArray]; exact set_fold vs _
theorem RestAt.frameL {a0 a:Act} {vs:List (Nat × Value)} (h:RestAt (vs.map (·.1)) a0 a) {ts:List Value} {df:List Deferred} (h0:a0 = ⟨ts.toArray,df⟩) (hv:FactsAt a vs) (one:(vs.map (·.1)).Nodup) (hin:∀ d ∈ vs.map (·.1),d < ts.length) :
 a = ⟨(vs.foldl (fun l x => l.set x.1 x.2) ts).toArray,df⟩:=by
 subst h0
 have e:=h.frame vs (fun d v m => hv (d,v) m) (fun d m => by
  obtain ⟨x,hx,rfl⟩:=List.mem_map.1 m
  exact ⟨x.2,hx⟩) (List.pairwise_map.1 one) (fun x hx => by simpa using hin x.1 (List.mem_map.2 ⟨x,hx,rfl⟩))
 rw [e,set_fold]
theorem act_lit2 {ts us:List Value} {df:List Deferred} (e:ts = us):(⟨ts.toArray,df⟩ : Act) = ⟨us.toArray,df⟩:=by rw [e]
structure MemAt (n:Nat) (ds:List Nat) (kv:List (Nat × Nat × Value)) (Mem:(Nat → Bool) → (Nat → Value) → World → Prop) (a0:Act) (listed:Array Bool) (a:Act) (W:World):Prop where
 size:listed.size = n
 stays:RestAt ds a0 a
 known:KnownAt kv listed a
 mem:Mem (fun j => listed.getD j false) (fun d => a.eval (.tmp d)) W
section
variable {n:Nat} {ds:List Nat} {kv:List (Nat × Nat × Value)} {Mem:(Nat → Bool) → (Nat → Value) → World → Prop} {a0:Act} {listed:Array Bool} {a:Act} {W:World}
theorem MemAt.at (h:MemAt n ds kv Mem a0 listed a W) {j d:Nat} {u:Value} (hm:(j,d,u) ∈ kv) (hl:listed.getD j false = true):a.eval (.tmp d) = u:=h.known j d u hm hl
theorem MemAt.step (h:MemAt n ds kv Mem a0 listed a W) {i d:Nat} {u:Value} {W':World} (hd:d ∈ ds) (hd2:d < a0.tmps.size) (hi:i < n)
 (hk:∀ j e x,(j,e,x) ∈ kv → (j = i → e = d ∧ x = u) ∧ (j ≠ i → e ≠ d))
 (hm:∀ (b':Nat → Bool) (s':Nat → Value),(∀ j,j ≠ i → b' j = listed.getD j false) → b' i = true → (∀ j,j ≠ d → s' j = a.eval (.tmp j)) → s' d = u → Mem b' s' W') :
 MemAt n ds kv Mem a0 (listed.setIfInBounds i true) (a.put (some d) u) W' where
 size:=by simp [h.size]
 stays:=h.stays.put hd
 known:=h.known.step (by rw [h.stays.1]; exact hd2) hk
 mem:=hm _ _ (fun j hj => set_other hj) (set_own (by rw [h.size]; exact hi)) (fun j hj => Act.eval_put_ne _ _ _ _ (Ne.symm hj)) (Act.eval_put_same _ _ _ (by rw [h.stays.1]; exact hd2))
theorem MemAt.turn (h:MemAt n ds kv Mem a0 listed a W) {i:Nat} {W':World} (hi:i < n) (hk:∀ j e x,(j,e,x) ∈ kv → j ≠ i)
 (hm:∀ (b':Nat → Bool),(∀ j,j ≠ i → b' j = listed.getD j false) → b' i = true → Mem b' (fun d => a.eval (.tmp d)) W') :
 MemAt n ds kv Mem a0 (listed.setIfInBounds i true) a W' where
 size:=by simp [h.size]
 stays:=h.stays
 known:=fun j e x m hl => by
  rcases getD_set listed i j hl with q | q
  · exact absurd q (hk j e x m)
  · exact h.known j e x m q
 mem:=hm _ (fun j hj => set_other hj) (set_own (by rw [h.size]; exact hi))
end
end Go.Proofs.YtoopdhgmdjienaaGreatDoor
