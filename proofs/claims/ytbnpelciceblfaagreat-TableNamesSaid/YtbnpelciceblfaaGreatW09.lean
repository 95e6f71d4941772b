/- UDraw USpec UFrame UAct ZTurn ZFrame -/
import Derived.Test.YtbnpelciceblfaaGreatW04
import Derived.Great.Frames
namespace Go.Proofs.YtbnpelciceblfaaGreat
set_option linter.unusedVariables false
open Go.RowKit
set_option maxHeartbeats 64000000
section
variable {P:Program} {ops:Array Oper} {md:Region.Mode} {Q:Exit → Act → World → Prop}
def undone (listed:Array Bool):Nat:=listed.toList.countP (fun b => !b)
theorem undone_set {listed:Array Bool} {i:Nat} (h:listed.getD i true = false):undone (listed.setIfInBounds i true) + 1 = undone listed:=by
 have hi:i < listed.size:=by
  rcases Nat.lt_or_ge i listed.size with c | c
  · exact c
  · rw [Array.getD_eq_getD_getElem?,Array.getElem?_eq_none c] at h; cases h
 have hv:listed.toList[i]? = some false:=by
  rw [Array.getD_eq_getD_getElem?,Array.getElem?_eq_getElem hi] at h
  rw [Array.getElem?_toList,Array.getElem?_eq_getElem hi]
  simpa using h
 unfold undone
 rw [Array.toList_setIfInBounds]
 have key:∀ (l:List Bool) (i:Nat),l[i]? = some false → (l.set i true).countP (fun b => !b) + 1 = l.countP (fun b => !b):=by
  intro l
  induction l with
  | nil => intro i h; simp at h
  | cons b l ih =>
    intro i h
    cases i with
    | zero =>
      obtain rfl:b = false:=by simpa using h
      simp
    | succ i =>
      have:=ih i (by simpa using h)
      rw [List.set_cons_succ,List.countP_cons,List.countP_cons]
      omega
 exact key _ _ hv
theorem ready_left {listed:Array Bool} {i:Nat} (h:i ∈ Region.ready md ops listed):listed.getD i true = false:=(mem_ready.1 h).1
theorem wpAny_inv (I:Array Bool → Act → World → Prop) (done:∀ listed a w,I listed a w → Region.ready md ops listed = [] → Q .normal a w)
 (step:∀ listed a w i,I listed a w → i ∈ Region.ready md ops listed → wpOp P ops Q i (I (listed.setIfInBounds i true)) a w) :
 ∀ (fuel:Nat) (listed:Array Bool) (a:Act) (w:World),undone listed ≤ fuel → I listed a w → wpAny P md ops Q fuel listed a w
 | 0,listed,a,w,hu,h => by
   have e:Region.ready md ops listed = []:=by
    cases q:Region.ready md ops listed with
    | nil => rfl
    | cons i l =>
      have:=undone_set (ready_left (md:=md) (ops:=ops) (listed:=listed) (i:=i) (by rw [q]; exact .head _))
      omega
   exact ⟨e,done _ _ _ h e⟩
 | fuel + 1,listed,a,w,hu,h => by
   refine ⟨done _ _ _ h,fun i hi => wpOp_mono (fun a' w' h' => wpAny_inv I done step fuel _ a' w' ?_ h') (step _ _ _ _ h hi)⟩
   have:=undone_set (ready_left hi)
   omega
theorem wp_region_inv {id:Nat} {a:Act} {w:World} (I:Array Bool → Act → World → Prop) (hm:P.follows .mixedOrders = true)
 (done:∀ listed a w,I listed a w → Region.ready .any ops listed = [] → Q .normal a w)
 (step:∀ listed a w i,I listed a w → i ∈ Region.ready .any ops listed → wpOp P ops Q i (I (listed.setIfInBounds i true)) a w)
 (start:I (Array.replicate ops.size false) a w.drew):(Code.region id ops true).wp P Q a w:=by
 refine wp_region_any hm (wpAny_inv I done step _ _ _ _ ?_ start)
 unfold undone
 exact Nat.le_trans List.countP_le_length (by simp)
theorem wpOp_of {i:Nat} {o:Oper} {K:Act → World → Prop} {a:Act} {w:World} (ho:ops[i]? = some o) (hw:Region.wanted o (yielded ops a.tmps) = true) (h:o.wp P a w K Q):wpOp P ops Q i K a w:=by
 unfold wpOp
 rw [ho]
 simp only [hw,if_true]
 exact .inl h
theorem wanted_plain {o:Oper} {y:Nat → Option Bool} (h:o.guard = none):Region.wanted o y = true:=by simp [Region.wanted,h]
theorem wanted_guard {o:Oper} {a:Act} {g d:Nat} {og:Oper} {b:Bool} (h:o.guard = some (g,b)) (hg:ops[g]? = some og) (hd:og.dst = some d) (hv:a.eval (.tmp d) = .bool b):Region.wanted o (yielded ops a.tmps) = true:=by
 have e:a.tmps[d]? = some (.bool b):=by
  have hv:a.tmps.getD d undef = .bool b:=hv
  rw [Array.getD_eq_getD_getElem?] at hv
  cases q:a.tmps[d]? with
  | none => rw [q] at hv; cases hv
  | some x => rw [q] at hv; simp at hv; rw [hv]
 simp [Region.wanted,h,yielded,hg,hd,e]
theorem wp_enter {o:Oper} {K:Act → World → Prop} {a:Act} {w:World} {f:FuncId} {args:Array Value} (h:(execOp a.eval o).run P w = .ok (.enter f args) w) (hc:Calls P f args w fun e w' => ∃ v,e = .returned v ∧ K (a.put o.dst v) w'):o.wp P a w K Q:=by
 unfold Oper.wp
 rw [h,Oper.upon_enter]
 refine hc.mono ?_
 rintro e w' ⟨v,rfl,hK⟩
 exact hK
theorem getD_set (listed:Array Bool) (i j:Nat):(listed.setIfInBounds i true).getD j false = true → j = i ∨ listed.getD j false = true:=by
 intro h
 by_cases e:j = i
 · exact .inl e
 · refine .inr ?_
   rw [Array.getD_eq_getD_getElem?,Array.getElem?_setIfInBounds_ne (Ne.symm e)] at h
   rwa [Array.getD_eq_getD_getElem?]
def RestAt (ds:List Nat) (a0 a:Act):Prop:=a.tmps.size = a0.tmps.size ∧ a.defers = a0.defers ∧ ∀ j,j ∉ ds → a.eval (.tmp j) = a0.eval (.tmp j)
theorem RestAt.put {ds:List Nat} {a0 a:Act} (h:RestAt ds a0 a) {d:Nat} {v:Value} (hd:d ∈ ds):RestAt ds a0 (a.put (some d) v):=by
 obtain ⟨h1,h2,h3⟩:=h
 refine ⟨by rw [← h1]; simp [Act.put],h2,fun j hj => ?_⟩
 rw [Act.eval_put_ne _ _ _ _ (fun q => hj (by rw [← q]; exact hd))]
 exact h3 j hj
theorem ready_pred {listed:Array Bool} {i:Nat} {o:Oper} (hi:i ∈ Region.ready md ops listed) (ho:ops[i]? = some o) (j:Nat) (hj:(o.after.toList.any fun e => e.on == j && Region.binds md e) = true):listed.getD j false = true:=by
 obtain ⟨_,o',ho',h⟩:=mem_ready.1 hi
 obtain rfl:o = o':=Option.some.inj (ho.symm.trans ho')
 obtain ⟨e,he,hb⟩:=List.any_eq_true.1 hj
 rw [Bool.and_eq_true,beq_iff_eq] at hb
 rw [← hb.1]
 exact h e (by simpa using he) hb.2
theorem ready_own {listed:Array Bool} {i:Nat} (hi:i ∈ Region.ready md ops listed):listed.getD i false = false:=by
 have h:=ready_left hi
 rw [Array.getD_eq_getD_getElem?] at h ⊢
 cases q:listed[i]? with
 | none => rfl
 | some b => rw [q] at h; simpa using h
theorem set_other {listed:Array Bool} {i j:Nat} (h:j ≠ i):(listed.setIfInBounds i true).getD j false = listed.getD j false:=by
 rw [Array.getD_eq_getD_getElem?,Array.getElem?_setIfInBounds_ne (Ne.symm h),Array.getD_eq_getD_getElem?]
theorem set_own {listed:Array Bool} {i:Nat} (h:i < listed.size):(listed.setIfInBounds i true).getD i false = true:=by
 rw [Array.getD_eq_getD_getElem?,Array.getElem?_setIfInBounds_self]
 simp [h]
theorem wp_k {o:Oper} {K:Act → World → Prop} {a a':Act} {w w':World} (hK:K a' w') (h:∀ K',K' a' w' → Oper.wp P o a w K' Q):Oper.wp P o a w K Q:=h K hK
theorem gen_act {Φ:Act → Prop} (a:Act) (h:∀ a0,a0 = a → Φ a0):Φ a:=h a rfl
theorem done_all {listed:Array Bool} (hs:listed.size = ops.size) (h:Region.ready md ops listed = []) (hw:∀ l:Array Bool,l.size = ops.size → (∃ i,i < ops.size ∧ l.getD i true = false) → Region.ready md ops l ≠ []):∀ i,i < ops.size → listed.getD i false = true:=by
 intro i hi
 cases q:listed.getD i true with
 | true =>
   rw [Array.getD_eq_getD_getElem?,Array.getElem?_eq_getElem (by omega)] at q ⊢
   simpa using q
 | false => exact absurd h (hw listed hs ⟨i,hi,q⟩)
theorem evalD {a:Act} {d:Nat} {v:Value} (h:a.eval (.tmp d) = v):a.tmps[d]?.getD undef = v:=by
 have h:a.tmps.getD d undef = v:=h
 rwa [Array.getD_eq_getD_getElem?] at h
def downB (md:Region.Mode) (ops:Array Oper):Bool:=(List.range ops.size).all fun i => match ops[i]? with | none => true | some o => o.after.toList.all fun e => !Region.binds md e || decide (e.on < i)
theorem ready_ne {listed:Array Bool} (hs:listed.size = ops.size) (hd:downB md ops = true):∀ (i:Nat),i < ops.size → listed.getD i true = false → Region.ready md ops listed ≠ []:=by
 intro i
 induction i using Nat.strongRecOn with
 | ind i ih =>
   intro hi hl
   have ho:ops[i]? = some ops[i]:=Array.getElem?_eq_getElem hi
   have hdi:=List.all_eq_true.1 hd i (List.mem_range.2 hi)
   rw [ho] at hdi
   have hdi:=List.all_eq_true.1 hdi
   by_cases c:∀ e ∈ ops[i].after,Region.binds md e = true → listed.getD e.on false = true
   · intro q
     have:i ∈ Region.ready md ops listed:=mem_ready.2 ⟨hl,ops[i],ho,fun e he hb => c e he hb⟩
     rw [q] at this
     cases this
   · have ⟨e,hc⟩:=Classical.not_forall.1 c
     have ⟨he,hc⟩:=Classical.not_imp.1 hc
     have ⟨hb,hf⟩:=Classical.not_imp.1 hc
     have lt:e.on < i:=by
      have q:=hdi e (by simpa using he)
      rw [hb] at q
      exact of_decide_eq_true q
     refine ih e.on lt (by omega) ?_
     have hlt:e.on < listed.size:=by omega
     rw [Array.getD_eq_getD_getElem?,Array.getElem?_eq_getElem hlt] at hf ⊢
     simpa using hf
theorem all_done {listed:Array Bool} (hs:listed.size = ops.size) (hd:downB md ops = true) (h:Region.ready md ops listed = []):∀ i,i < ops.size → listed.getD i false = true:=by
 intro i hi
 cases q:listed.getD i true with
 | true =>
   rw [Array.getD_eq_getD_getElem?,Array.getElem?_eq_getElem (by omega)] at q ⊢
   simpa using q
 | false => exact absurd h (ready_ne hs hd i hi q)
end
theorem below_nil {p:Nat → Prop} : ∀ i,i < 0 → p i:=fun _ h => absurd h (Nat.not_lt_zero _)
theorem below_step {p:Nat → Prop} {n:Nat} (h:p n) (k:∀ i,i < n → p i):∀ i,i < n + 1 → p i:=fun i hi => by
 rcases Nat.lt_or_ge i n with c | c
 · exact k i c
 · rw [show i = n by omega]; exact h
section
variable {P:Program} {ops:Array Oper} {Q:Exit → Act → World → Prop}
def waitsB (ops:Array Oper) (i j:Nat):Bool:=match ops[i]? with | none => false | some o => o.after.toList.any fun e => e.on == j && Region.binds .any e
def dstsB (ops:Array Oper) (dl:List Nat):Bool:=(ops.toList.map fun o => o.dst) == dl.map some
def SpMono (s:Value → World → Prop):Prop:=∀ v w w',s v w → Wider w w' → s v w'
def AllMono (sp:List (Value → World → Prop)):Prop:=∀ s ∈ sp,SpMono s
theorem AllMono.cons {s:Value → World → Prop} {sp:List (Value → World → Prop)} (h:SpMono s) (k:AllMono sp):AllMono (s :: sp):=fun t ht => by
 cases ht with
 | head => exact h
 | tail _ ht => exact k t ht
abbrev spEq (x:Value):Value → World → Prop:=fun v _ => v = x
abbrev spIf (p:Prop) (x:Value):Value → World → Prop:=fun v _ => p → v = x
def SpecDo (P:Program) (ops:Array Oper) (Q:Exit → Act → World → Prop) (i d:Nat) (s:Value → World → Prop) (a:Act) (W:World):Prop :=
 wpOp P ops Q i (fun a' W' => ∃ v,a' = a.put (some d) v ∧ Wider W W' ∧ s v W') a W
variable {i d:Nat} {o:Oper} {s:Value → World → Prop} {a:Act} {W:World}
theorem spec_plain (ho:ops[i]? = some o) (hg:o.guard = none) (h:o.wp P a W (fun a' W' => ∃ v,a' = a.put (some d) v ∧ Wider W W' ∧ s v W') Q):SpecDo P ops Q i d s a W:=wpOp_of ho (wanted_plain hg) h
theorem spec_guard {g dg:Nat} {og:Oper} {b c:Bool} (ho:ops[i]? = some o) (hg:o.guard = some (g,c)) (hog:ops[g]? = some og) (hdg:og.dst = some dg) (hb:a.eval (.tmp dg) = .bool b) (hd:o.dst = some d)
 (no:b ≠ c → s undef W) (yes:b = c → o.wp P a W (fun a' W' => ∃ v,a' = a.put (some d) v ∧ Wider W W' ∧ s v W') Q):SpecDo P ops Q i d s a W:=by
 by_cases e:b = c
 · exact wpOp_of ho (wanted_guard (b:=c) hg hog hdg (by rw [hb,e])) (yes e)
 · unfold SpecDo wpOp
   rw [ho]
   have hv:a.tmps[dg]? = some (.bool b):=by
    have hb:a.tmps.getD dg undef = .bool b:=hb
    rw [Array.getD_eq_getD_getElem?] at hb
    cases q:a.tmps[dg]? with
    | none => rw [q] at hb; cases hb
    | some x => rw [q] at hb; simp at hb; rw [hb]
   have nw:Region.wanted o (yielded ops a.tmps) = false:=by
    simp [Region.wanted,hg,yielded,hog,hdg,hv,e]
   simp only [nw]
   exact ⟨undef,by rw [hd],Wider.refl W,no e⟩
theorem wp_yield {v:Value} {W':World} (hd:o.dst = some d) (h:(execOp a.eval o).run P W = .ok (.value v) W') (g:Wider W W') (hs:s v W'):o.wp P a W (fun a' W' => ∃ v,a' = a.put (some d) v ∧ Wider W W' ∧ s v W') Q:=by
 unfold Oper.wp
 rw [h,Oper.upon_value,hd]
 exact ⟨v,rfl,g,hs⟩
theorem run_enter {f : FuncId} (h : (P.funcs[f]?.map fun fn => (fn.name == "runtime.NumGoroutine", fn.body.isNone)) = some (false, false)) (args : Array Value) (w : World) : (callFunc f args).run P w = .ok (.enter f args) w := by
 cases hf:P.funcs[f]? with
 | none => rw [hf] at h; cases h
 | some fn =>
   rw [hf] at h
   simp only [Option.map_some,Option.some.injEq,Prod.mk.injEq] at h
   obtain ⟨h1,h2⟩:=h
   have h3 : fn.name ≠ "runtime.NumGoroutine" := fun e => by rw [e] at h1; cases h1
   have h4:fn.body ≠ none:=fun e => by rw [e] at h2; cases h2
   simp [callFunc,hf,h3,h4]
theorem args2 {x y:Operand} {u v:Value} (h:a.eval x = u) (k:a.eval y = v):(#[x,y] : Array Operand).map a.eval = #[u,v]:=by subst h k; simp
theorem args3 {x y z:Operand} {u v t:Value} (h:a.eval x = u) (k:a.eval y = v) (l:a.eval z = t):(#[x,y,z] : Array Operand).map a.eval = #[u,v,t]:=by subst h k l; simp
theorem wp_asks {f : FuncId} {args : Array Operand} {ts : Array TypeId} {vs : Array Value} (hd : o.dst = some d) (hop : o.op = .call { callee := .value (.func f), args := args, argTypes := ts }) (hx : args.map a.eval = vs) (hf : (P.funcs[f]?.map fun fn => (fn.name == "runtime.NumGoroutine", fn.body.isNone)) = some (false, false))
 (hc:Calls P f vs W fun e W' => ∃ v,e = .returned v ∧ Wider W W' ∧ s v W'):o.wp P a W (fun a' W' => ∃ v,a' = a.put (some d) v ∧ Wider W W' ∧ s v W') Q:=by
 subst hx
 have h:(execOp a.eval o).run P W = .ok (.enter f (args.map a.eval)) W:=by
  unfold execOp
  simp [hop,resolve,invoke,Act.eval,Deferred.ofValue,run_enter hf]
 unfold Oper.wp
 rw [h,Oper.upon_enter]
 refine hc.mono ?_
 rintro e W' ⟨v,rfl,g,hv⟩
 rw [hd]
 exact ⟨v,rfl,g,hv⟩
theorem exec_call {f:FuncId} {args:Array Operand} {ts:Array TypeId} {vs:Array Value} (hop:o.op = .call { callee:=.value (.func f),args:=args,argTypes:=ts }) (hx:args.map a.eval = vs)
 (hf : (P.funcs[f]?.map fun fn => (fn.name == "runtime.NumGoroutine", fn.body.isNone)) = some (false, false)) : (execOp a.eval o).run P W = .ok (.enter f vs) W := by
 subst hx
 unfold execOp
 simp [hop,resolve,invoke,Act.eval,Deferred.ofValue,run_enter hf]
theorem exec_move {x:Operand} {v:Value} (hop:o.op = .move x) (hx:a.eval x = v):(execOp a.eval o).run P W = .ok (.value v) W:=by
 unfold execOp; simp only [hop,hx,Sem.run_pure]
theorem exec_pick {c x y:Operand} {b:Bool} {v:Value} (hop:o.op = .pick c x y) (hc:a.eval c = .bool b) (ht:b = true → a.eval x = v) (hf:b = false → a.eval y = v):(execOp a.eval o).run P W = .ok (.value v) W:=by
 unfold execOp
 simp only [hop,hc]
 cases b
 · rw [hf rfl]; rfl
 · rw [ht rfl]; rfl
theorem or_yes {q r:Bool} (h:q = true):Value.bool true = .bool (q || r):=by subst h; rfl
theorem or_no {q r:Bool} (h:q = false):Value.bool r = .bool (q || r):=by subst h; rfl
end
def FactsAt (a:Act) (vs:List (Nat × Value)):Prop:=∀ x ∈ vs,a.eval (.tmp x.1) = x.2
theorem FactsAt.cons {a:Act} {d:Nat} {v:Value} {vs:List (Nat × Value)} (h:a.eval (.tmp d) = v) (k:FactsAt a vs):FactsAt a ((d,v) :: vs):=fun x hx => by
 cases hx with
 | head => exact h
 | tail _ hx => exact k x hx
def SlotsAt (a:Act) (p:Nat) (vs:List Value):Prop:=∀ i (h:i < vs.length),a.eval (.tmp (p + i)) = vs[i]
theorem SlotsAt.nil {a:Act} {p:Nat} : SlotsAt a p []:=fun _ h => absurd h (Nat.not_lt_zero _)
theorem SlotsAt.cons {a:Act} {p:Nat} {v:Value} {vs:List Value} (h:a.eval (.tmp p) = v) (k:SlotsAt a (p + 1) vs):SlotsAt a p (v :: vs):=fun i hi => by
 cases i with
 | zero => exact h
 | succ i =>
   have:=k i (by simpa using hi)
   rw [show p + (i + 1) = p + 1 + i by omega]
   simpa using this
theorem RestAt.frameT {ds:List Nat} {a0 a:Act} (h:RestAt ds a0 a) {p:Nat} {vs ts:List Value} {df:List Deferred} (h0:a0 = ⟨ts.toArray,df⟩) (hd:∀ j ∈ ds,p ≤ j ∧ j < p + vs.length) (hv:SlotsAt a p vs) (hn:p + vs.length ≤ ts.length) :
 a = ⟨(ts.take p ++ (vs ++ ts.drop (p + vs.length))).toArray,df⟩:=by
 subst h0
 obtain ⟨h1,h2,h3⟩:=h
 obtain ⟨tmps,defers⟩:=a
 have h2:defers = df:=h2
 have h1:tmps.size = ts.length:=by simpa using h1
 subst h2
 congr 1
 apply Array.ext
 · simp [h1]; omega
 · intro j hj1 hj2
   have e1:tmps[j] = tmps.getD j undef:=by rw [Array.getD_eq_getD_getElem?,Array.getElem?_eq_getElem hj1]; rfl
   have rest:¬ (p ≤ j ∧ j < p + vs.length) → tmps[j] = ts[j]'(by omega):=fun no => by
    have h3:tmps.getD j undef = ts.toArray.getD j undef:=h3 j (fun m => no (hd j m))
    rw [e1,h3,Array.getD_eq_getD_getElem?,Array.getElem?_eq_getElem (by simp; omega)]
    simp
   simp only [List.getElem_toArray]
   by_cases c:j < p
   · rw [List.getElem_append_left (by simp; omega),List.getElem_take]
     exact rest (by omega)
   · rw [List.getElem_append_right (by simp; omega)]
     by_cases c2:j < p + vs.length
     · rw [List.getElem_append_left (by simp; omega),e1]
       have:=hv (j - p) (by omega)
       rw [show p + (j - p) = j by omega] at this
       have this:tmps.getD j undef = _:=this
       rw [this]
       congr 1
       simp; omega
     · rw [List.getElem_append_right (by simp; omega),List.getElem_drop,rest (by omega)]
       congr 1
       simp; omega
section
variable {P:Program} {ops:Array Oper} {Q:Exit → Act → World → Prop}
def SpFree (s:Value → World → Prop):Prop:=∀ v w w',s v w → s v w'
def AllFree (sp:List (Value → World → Prop)):Prop:=∀ s ∈ sp,SpFree s
theorem AllFree.nil:AllFree []:=fun _ h => by cases h
theorem AllFree.cons {s:Value → World → Prop} {sp:List (Value → World → Prop)} (h:SpFree s) (k:AllFree sp):AllFree (s :: sp):=fun t ht => by
 cases ht with
 | head => exact h
 | tail _ ht => exact k t ht
theorem AllFree.at {sp:List (Value → World → Prop)} (h:AllFree sp) (i:Nat):SpFree (sp.getD i (fun _ _ => True)):=by
 rw [List.getD_eq_getElem?_getD]
 cases q:sp[i]? with
 | none => exact fun _ _ _ _ => trivial
 | some s => exact h s (List.mem_of_getElem? q)
theorem spEq_free (x:Value):SpFree (spEq x):=fun _ _ _ h => h
theorem spIf_free (p:Prop) (x:Value):SpFree (spIf p x):=fun _ _ _ h => h
structure TurnAt (k:Nat) (A B:World → Prop) (dl:List Nat) (sp:List (Value → World → Prop)) (a0:Act) (listed:Array Bool) (a:Act) (W:World):Prop where
 size:listed.size = dl.length
 mem0:listed.getD k false = false → A W
 mem1:listed.getD k false = true → B W
 tmps:a.tmps.size = a0.tmps.size
 defs:a.defers = a0.defers
 rest:∀ j,j ∉ dl → a.eval (.tmp j) = a0.eval (.tmp j)
 sp:∀ i,i < dl.length → listed.getD i false = true → sp.getD i (fun _ _ => True) (a.eval (.tmp (dl.getD i 0))) W
theorem wp_region_turn {id:Nat} {a0:Act} {w0:World} (k:Nat) (A B:World → Prop) (dl:List Nat) (sp:List (Value → World → Prop)) (hk:k < dl.length) (hm:P.follows .mixedOrders = true) (hd:downB .any ops = true) (hdst:dstsB ops dl = true) (one:dl.Nodup) (hin:∀ d ∈ dl,d < a0.tmps.size) (mono:AllFree sp)
 (mA:∀ W W',A W → Wider W W' → A W') (mB:∀ W W',B W → Wider W W' → B W') (start:A w0.drew)
 (step:∀ i,i < dl.length → ∀ a W,(A W ∨ B W) → (∀ j,j ∉ dl → a.eval (.tmp j) = a0.eval (.tmp j)) → (∀ j,waitsB ops i j = true → sp.getD j (fun _ _ => True) (a.eval (.tmp (dl.getD j 0))) W) →
  (i = k → A W → wpOp P ops Q i (fun a' W' => ∃ v,a' = a.put (some (dl.getD i 0)) v ∧ B W' ∧ sp.getD i (fun _ _ => True) v W') a W) ∧ (i ≠ k → SpecDo P ops Q i (dl.getD i 0) (sp.getD i (fun _ _ => True)) a W))
 (done:∀ a W,B W → a.tmps.size = a0.tmps.size → a.defers = a0.defers → (∀ j,j ∉ dl → a.eval (.tmp j) = a0.eval (.tmp j)) → (∀ i,i < dl.length → sp.getD i (fun _ _ => True) (a.eval (.tmp (dl.getD i 0))) W) → Q .normal a W) :
 (Code.region id ops true).wp P Q a0 w0:=by
 have hlen:dl.length = ops.size:=by
  have:=congrArg List.length (beq_iff_eq.1 hdst)
  simpa using this.symm
 have hmem:∀ i,i < dl.length → dl.getD i 0 ∈ dl:=fun i hi => by
  rw [List.getD_eq_getElem?_getD,List.getElem?_eq_getElem hi]; exact List.getElem_mem hi
 have hne:∀ i j,i < dl.length → j < dl.length → i ≠ j → dl.getD i 0 ≠ dl.getD j 0:=fun i j hi hj hij e => by
  rw [List.getD_eq_getElem?_getD,List.getD_eq_getElem?_getD,List.getElem?_eq_getElem hi,List.getElem?_eq_getElem hj] at e
  exact hij ((List.getElem_inj one).1 e)
 refine wp_region_inv (TurnAt k A B dl sp a0) hm ?_ ?_ ?_
 · intro listed a W hI he
   have ha:=all_done (md:=.any) (hI.size.trans hlen) hd he
   exact done a W (hI.mem1 (ha k (by omega))) hI.tmps hI.defs hI.rest fun i hi => hI.sp i hi (ha i (by omega))
 · intro listed a W i hI hi
   obtain ⟨_,o,ho,_⟩:=mem_ready.1 hi
   have hlt:i < dl.length:=by rw [hlen]; exact (Array.getElem?_eq_some_iff.1 ho).1
   have hAB:A W ∨ B W:=by
    cases q:listed.getD k false with
    | false => exact .inl (hI.mem0 q)
    | true => exact .inr (hI.mem1 q)
   have st:=step i hlt a W hAB hI.rest fun j hj => by
    unfold waitsB at hj
    rw [ho] at hj
    have hl:=ready_pred hi ho j hj
    have hjl:j < dl.length:=by
     rcases Nat.lt_or_ge j dl.length with c | c
     · exact c
     · rw [Array.getD_eq_getD_getElem?,Array.getElem?_eq_none (by rw [hI.size]; exact c)] at hl; cases hl
    exact hI.sp j hjl hl
   have fin:∀ v W',sp.getD i (fun _ _ => True) v W' → ((listed.setIfInBounds i true).getD k false = false → A W') → ((listed.setIfInBounds i true).getD k false = true → B W') → TurnAt k A B dl sp a0 (listed.setIfInBounds i true) (a.put (some (dl.getD i 0)) v) W':=fun v W' hv m0 m1 => by
    have hdi:dl.getD i 0 < a.tmps.size:=by rw [hI.tmps]; exact hin _ (hmem i hlt)
    refine ⟨by simpa using hI.size,m0,m1,by rw [← hI.tmps]; simp [Act.put],hI.defs,fun j hj => ?_,fun j hj hl => ?_⟩
    · rw [Act.eval_put_ne _ _ _ _ (fun q => hj (by rw [← q]; exact hmem i hlt))]
      exact hI.rest j hj
    · by_cases c:j = i
      · subst c
        rw [Act.eval_put_same _ _ _ hdi]
        exact hv
      · rw [Act.eval_put_ne _ _ _ _ (hne i j hlt hj (Ne.symm c))]
        rcases getD_set listed i j hl with q | q
        · exact absurd q c
        · exact mono.at j _ _ _ (hI.sp j hj q)
   by_cases c:i = k
   · subst c
     refine wpOp_mono ?_ (st.1 rfl (hI.mem0 (ready_own hi)))
     rintro a' W' ⟨v,rfl,hB,hv⟩
     have e:(listed.setIfInBounds i true).getD i false = true:=set_own (by rw [hI.size]; exact hlt)
     exact fin v W' hv (fun q => by rw [e] at q; cases q) (fun _ => hB)
   · refine wpOp_mono ?_ (st.2 c)
     rintro a' W' ⟨v,rfl,g,hv⟩
     have e:(listed.setIfInBounds i true).getD k false = listed.getD k false:=set_other (Ne.symm c)
     exact fin v W' hv (fun q => mA _ _ (hI.mem0 (e.symm.trans q)) g) (fun q => mB _ _ (hI.mem1 (e.symm.trans q)) g)
 · refine ⟨by simp [hlen],fun _ => start,fun h => ?_,rfl,rfl,fun _ _ => rfl,fun i hi h => ?_⟩
   · exact absurd h (by rw [Array.getD_eq_getD_getElem?]; simp [Array.getElem?_replicate]; split <;> simp)
   · exact absurd h (by rw [Array.getD_eq_getD_getElem?]; simp [Array.getElem?_replicate]; split <;> simp)
theorem turn_guard {i d:Nat} {o:Oper} {s:Value → World → Prop} {B:World → Prop} {a:Act} {W:World} {g dg:Nat} {og:Oper} {c:Bool} (ho:ops[i]? = some o) (hg:o.guard = some (g,c)) (hog:ops[g]? = some og) (hdg:og.dst = some dg) (hb:a.eval (.tmp dg) = .bool c)
 (yes:o.wp P a W (fun a' W' => ∃ v,a' = a.put (some d) v ∧ B W' ∧ s v W') Q):wpOp P ops Q i (fun a' W' => ∃ v,a' = a.put (some d) v ∧ B W' ∧ s v W') a W:=wpOp_of ho (wanted_guard (b:=c) hg hog hdg hb) yes
theorem turn_asks {d : Nat} {o : Oper} {s : Value → World → Prop} {B : World → Prop} {a : Act} {W : World} {f : FuncId} {args : Array Operand} {ts : Array TypeId} {vs : Array Value} (hd : o.dst = some d) (hop : o.op = .call { callee := .value (.func f), args := args, argTypes := ts }) (hx : args.map a.eval = vs) (hf : (P.funcs[f]?.map fun fn => (fn.name == "runtime.NumGoroutine", fn.body.isNone)) = some (false, false))
 (hc:Calls P f vs W fun e W' => ∃ v,e = .returned v ∧ B W' ∧ s v W'):o.wp P a W (fun a' W' => ∃ v,a' = a.put (some d) v ∧ B W' ∧ s v W') Q:=by
 refine wp_enter (exec_call hop hx hf) (hc.mono ?_)
 rintro e W' ⟨v,rfl,hB,hv⟩
 rw [hd]
 exact ⟨v,rfl,v,rfl,hB,hv⟩
end
end Go.Proofs.YtbnpelciceblfaaGreat
