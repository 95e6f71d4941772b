/- A region that draws its order and makes memory in its midst: by an invariant over what is listed. No program is in sight. -/
import Derived.Test.YtilebacnjagneaaQuiet
import Derived.Great.Frames
namespace Go.Proofs.Ytilebacnjagneaa
set_option linter.unusedVariables false
open Go.RowKit

section
variable {P : Program} {ops : Array Oper} {md : Region.Mode} {Q : Exit → Act → World → Prop}
def undone (listed : Array Bool) : Nat := listed.toList.countP (fun b => !b)
theorem undone_set {listed : Array Bool} {i : Nat} (h : listed.getD i true = false) : undone (listed.setIfInBounds i true) + 1 = undone listed := by
  have hi : i < listed.size := by
    rcases Nat.lt_or_ge i listed.size with c | c
    · exact c
    · rw [Array.getD_eq_getD_getElem?, Array.getElem?_eq_none c] at h; cases h
  have hv : listed.toList[i]? = some false := by
    rw [Array.getD_eq_getD_getElem?, Array.getElem?_eq_getElem hi] at h
    rw [Array.getElem?_toList, Array.getElem?_eq_getElem hi]
    simpa using h
  unfold undone
  rw [Array.toList_setIfInBounds]
  have key : ∀ (l : List Bool) (i : Nat), l[i]? = some false → (l.set i true).countP (fun b => !b) + 1 = l.countP (fun b => !b) := by
    intro l
    induction l with
    | nil => intro i h; simp at h
    | cons b l ih =>
      intro i h
      cases i with
      | zero =>
        obtain rfl : b = false := by simpa using h
        simp
      | succ i =>
        have := ih i (by simpa using h)
        rw [List.set_cons_succ, List.countP_cons, List.countP_cons]
        omega
  exact key _ _ hv
theorem ready_left {listed : Array Bool} {i : Nat} (h : i ∈ Region.ready md ops listed) : listed.getD i true = false := (mem_ready.1 h).1
theorem wpAny_inv (I : Array Bool → Act → World → Prop) (done : ∀ listed a w, I listed a w → Region.ready md ops listed = [] → Q .normal a w)
    (step : ∀ listed a w i, I listed a w → i ∈ Region.ready md ops listed → wpOp P ops Q i (I (listed.setIfInBounds i true)) a w) :
    ∀ (fuel : Nat) (listed : Array Bool) (a : Act) (w : World), undone listed ≤ fuel → I listed a w → wpAny P md ops Q fuel listed a w
  | 0, listed, a, w, hu, h => by
    have e : Region.ready md ops listed = [] := by
      cases q : Region.ready md ops listed with
      | nil => rfl
      | cons i l =>
        have := undone_set (ready_left (md := md) (ops := ops) (listed := listed) (i := i) (by rw [q]; exact .head _))
        omega
    exact ⟨e, done _ _ _ h e⟩
  | fuel + 1, listed, a, w, hu, h => by
    refine ⟨done _ _ _ h, fun i hi => wpOp_mono (fun a' w' h' => wpAny_inv I done step fuel _ a' w' ?_ h') (step _ _ _ _ h hi)⟩
    have := undone_set (ready_left hi)
    omega
theorem wp_region_inv {id : Nat} {a : Act} {w : World} (I : Array Bool → Act → World → Prop) (hm : P.follows .mixedOrders = true)
    (done : ∀ listed a w, I listed a w → Region.ready .any ops listed = [] → Q .normal a w)
    (step : ∀ listed a w i, I listed a w → i ∈ Region.ready .any ops listed → wpOp P ops Q i (I (listed.setIfInBounds i true)) a w)
    (start : I (Array.replicate ops.size false) a w.drew) : (Code.region id ops true).wp P Q a w := by
  refine wp_region_any hm (wpAny_inv I done step _ _ _ _ ?_ start)
  unfold undone
  exact Nat.le_trans List.countP_le_length (by simp)
/-- An operation that is wanted. -/
theorem wpOp_of {i : Nat} {o : Oper} {K : Act → World → Prop} {a : Act} {w : World} (ho : ops[i]? = some o) (hw : Region.wanted o (yielded ops a.tmps) = true) (h : o.wp P a w K Q) : wpOp P ops Q i K a w := by
  unfold wpOp
  rw [ho]
  simp only [hw, if_true]
  exact .inl h
theorem wanted_plain {o : Oper} {y : Nat → Option Bool} (h : o.guard = none) : Region.wanted o y = true := by simp [Region.wanted, h]
theorem wanted_guard {o : Oper} {a : Act} {g d : Nat} {og : Oper} {b : Bool} (h : o.guard = some (g, b)) (hg : ops[g]? = some og) (hd : og.dst = some d) (hv : a.eval (.tmp d) = .bool b) : Region.wanted o (yielded ops a.tmps) = true := by
  have e : a.tmps[d]? = some (.bool b) := by
    have hv : a.tmps.getD d undef = .bool b := hv
    rw [Array.getD_eq_getD_getElem?] at hv
    cases q : a.tmps[d]? with
    | none => rw [q] at hv; cases hv
    | some x => rw [q] at hv; simp at hv; rw [hv]
  simp [Region.wanted, h, yielded, hg, hd, e]
theorem wp_val {o : Oper} {K : Act → World → Prop} {a : Act} {w w' : World} {v : Value} (h : (execOp a.eval o).run P w = .ok (.value v) w') (hK : K (a.put o.dst v) w') : o.wp P a w K Q := by
  unfold Oper.wp
  rw [h]
  exact hK
theorem wp_enter {o : Oper} {K : Act → World → Prop} {a : Act} {w : World} {f : FuncId} {args : Array Value} (h : (execOp a.eval o).run P w = .ok (.enter f args) w) (hc : Calls P f args w fun e w' => ∃ v, e = .returned v ∧ K (a.put o.dst v) w') : o.wp P a w K Q := by
  unfold Oper.wp
  rw [h, Oper.upon_enter]
  refine hc.mono ?_
  rintro e w' ⟨v, rfl, hK⟩
  exact hK
/-- Operations whose yields are known ahead: (operation, slot, value). -/
def KnownAt (kv : List (Nat × Nat × Value)) (listed : Array Bool) (a : Act) : Prop := ∀ j d v, (j, d, v) ∈ kv → listed.getD j false = true → a.eval (.tmp d) = v
theorem getD_set (listed : Array Bool) (i j : Nat) : (listed.setIfInBounds i true).getD j false = true → j = i ∨ listed.getD j false = true := by
  intro h
  by_cases e : j = i
  · exact .inl e
  · refine .inr ?_
    rw [Array.getD_eq_getD_getElem?, Array.getElem?_setIfInBounds_ne (Ne.symm e)] at h
    rwa [Array.getD_eq_getD_getElem?]
theorem KnownAt.step {kv : List (Nat × Nat × Value)} {listed : Array Bool} {a : Act} (h : KnownAt kv listed a) {i d : Nat} {v : Value} (hd : d < a.tmps.size)
    (hk : ∀ j e u, (j, e, u) ∈ kv → (j = i → e = d ∧ u = v) ∧ (j ≠ i → e ≠ d)) : KnownAt kv (listed.setIfInBounds i true) (a.put (some d) v) := by
  intro j e u hm hl
  obtain ⟨h1, h2⟩ := hk j e u hm
  by_cases c : j = i
  · obtain ⟨rfl, rfl⟩ := h1 c
    exact Act.eval_put_same _ _ _ hd
  · rw [Act.eval_put_ne _ _ _ _ (fun q => h2 c q.symm)]
    rcases getD_set listed i j hl with q | q
    · exact absurd q c
    · exact h j e u hm q
/-- What a region has not written stands. -/
def RestAt (ds : List Nat) (a0 a : Act) : Prop := a.tmps.size = a0.tmps.size ∧ a.defers = a0.defers ∧ ∀ j, j ∉ ds → a.eval (.tmp j) = a0.eval (.tmp j)
theorem RestAt.refl (ds : List Nat) (a : Act) : RestAt ds a a := ⟨rfl, rfl, fun _ _ => rfl⟩
theorem RestAt.put {ds : List Nat} {a0 a : Act} (h : RestAt ds a0 a) {d : Nat} {v : Value} (hd : d ∈ ds) : RestAt ds a0 (a.put (some d) v) := by
  obtain ⟨h1, h2, h3⟩ := h
  refine ⟨by rw [← h1]; simp [Act.put], h2, fun j hj => ?_⟩
  rw [Act.eval_put_ne _ _ _ _ (fun q => hj (by rw [← q]; exact hd))]
  exact h3 j hj
/-- The frame behind, slot by slot. -/
theorem RestAt.frame {ds : List Nat} {a0 a : Act} (h : RestAt ds a0 a) (vs : List (Nat × Value)) (hv : ∀ d v, (d, v) ∈ vs → a.eval (.tmp d) = v) (hds : ∀ d ∈ ds, ∃ v, (d, v) ∈ vs) (hone : vs.Pairwise fun x y => x.1 ≠ y.1) (hin : ∀ x ∈ vs, x.1 < a0.tmps.size) :
    a = { tmps := vs.foldl (fun t x => t.setIfInBounds x.1 x.2) a0.tmps, defers := a0.defers } := by
  obtain ⟨h1, h2, h3⟩ := h
  obtain ⟨tmps, defers⟩ := a
  have h2 : defers = a0.defers := h2
  have h1 : tmps.size = a0.tmps.size := h1
  subst h2
  congr 1
  have size : ∀ (vs : List (Nat × Value)) (t : Array Value), (vs.foldl (fun t x => t.setIfInBounds x.1 x.2) t).size = t.size := by
    intro vs
    induction vs with
    | nil => intro t; rfl
    | cons x vs ih => intro t; rw [List.foldl_cons, ih]; simp
  have at_ : ∀ (vs : List (Nat × Value)) (t : Array Value), (vs.Pairwise fun x y => x.1 ≠ y.1) → (∀ x ∈ vs, x.1 < t.size) → ∀ j, (vs.foldl (fun t x => t.setIfInBounds x.1 x.2) t).getD j undef = ((vs.find? fun x => x.1 == j).map (·.2)).getD (t.getD j undef) := by
    intro vs
    induction vs with
    | nil => intro t _ _ j; rfl
    | cons x vs ih =>
      intro t hp hi j
      obtain ⟨p1, p2⟩ := List.pairwise_cons.1 hp
      rw [List.foldl_cons, ih _ p2 (fun y hy => by simpa using hi y (.tail _ hy)) j]
      by_cases e : x.1 = j
      · have n : vs.find? (fun y => y.1 == j) = none := List.find?_eq_none.2 fun y hy => by
          have := p1 y hy
          simp; intro q; exact this (e.trans q.symm)
        rw [n, List.find?_cons_of_pos (by simpa using e)]
        subst e
        have hx := hi x (.head _)
        simp [Array.getD_eq_getD_getElem?, hx]
      · rw [List.find?_cons_of_neg (by simpa using e)]
        congr 1
        rw [Array.getD_eq_getD_getElem?, Array.getElem?_setIfInBounds_ne e, Array.getD_eq_getD_getElem?]
  apply Array.ext
  · rw [size, h1]
  · intro j hj1 hj2
    have e1 : tmps[j] = tmps.getD j undef := by rw [Array.getD_eq_getD_getElem?, Array.getElem?_eq_getElem hj1]; rfl
    have e2 : (vs.foldl (fun t x => t.setIfInBounds x.1 x.2) a0.tmps)[j] = (vs.foldl (fun t x => t.setIfInBounds x.1 x.2) a0.tmps).getD j undef := by rw [Array.getD_eq_getD_getElem?, Array.getElem?_eq_getElem hj2]; rfl
    rw [e1, e2, at_ vs a0.tmps hone hin j]
    cases q : vs.find? fun x => x.1 == j with
    | none =>
      have nin : j ∉ ds := fun m => by
        obtain ⟨v, hm⟩ := hds j m
        have := List.find?_eq_none.1 q _ hm
        simp at this
      exact h3 j nin
    | some x =>
      have e : x.1 = j := by simpa using List.find?_some q
      have m := List.mem_of_find?_eq_some q
      subst e
      exact hv x.1 x.2 m
theorem ready_pred {listed : Array Bool} {i : Nat} {o : Oper} (hi : i ∈ Region.ready md ops listed) (ho : ops[i]? = some o) (j : Nat) (hj : (o.after.toList.any fun e => e.on == j && Region.binds md e) = true) : listed.getD j false = true := by
  obtain ⟨_, o', ho', h⟩ := mem_ready.1 hi
  obtain rfl : o = o' := Option.some.inj (ho.symm.trans ho')
  obtain ⟨e, he, hb⟩ := List.any_eq_true.1 hj
  rw [Bool.and_eq_true, beq_iff_eq] at hb
  rw [← hb.1]
  exact h e (by simpa using he) hb.2
theorem ready_own {listed : Array Bool} {i : Nat} (hi : i ∈ Region.ready md ops listed) : listed.getD i false = false := by
  have h := ready_left hi
  rw [Array.getD_eq_getD_getElem?] at h ⊢
  cases q : listed[i]? with
  | none => rfl
  | some b => rw [q] at h; simpa using h
theorem set_other {listed : Array Bool} {i j : Nat} (h : j ≠ i) : (listed.setIfInBounds i true).getD j false = listed.getD j false := by
  rw [Array.getD_eq_getD_getElem?, Array.getElem?_setIfInBounds_ne (Ne.symm h), Array.getD_eq_getD_getElem?]
theorem set_own {listed : Array Bool} {i : Nat} (h : i < listed.size) : (listed.setIfInBounds i true).getD i false = true := by
  rw [Array.getD_eq_getD_getElem?, Array.getElem?_setIfInBounds_self]
  simp [h]
theorem wp_k {o : Oper} {K : Act → World → Prop} {a a' : Act} {w w' : World} (hK : K a' w') (h : ∀ K', K' a' w' → Oper.wp P o a w K' Q) : Oper.wp P o a w K Q := h K hK
theorem gen_act {Φ : Act → Prop} (a : Act) (h : ∀ a0, a0 = a → Φ a0) : Φ a := h a rfl
theorem done_all {listed : Array Bool} (hs : listed.size = ops.size) (h : Region.ready md ops listed = []) (hw : ∀ l : Array Bool, l.size = ops.size → (∃ i, i < ops.size ∧ l.getD i true = false) → Region.ready md ops l ≠ []) : ∀ i, i < ops.size → listed.getD i false = true := by
  intro i hi
  cases q : listed.getD i true with
  | true =>
    rw [Array.getD_eq_getD_getElem?, Array.getElem?_eq_getElem (by omega)] at q ⊢
    simpa using q
  | false => exact absurd h (hw listed hs ⟨i, hi, q⟩)
theorem evalD {a : Act} {d : Nat} {v : Value} (h : a.eval (.tmp d) = v) : a.tmps[d]?.getD undef = v := by
  have h : a.tmps.getD d undef = v := h
  rwa [Array.getD_eq_getD_getElem?] at h
/-- Each operation waits for earlier ones alone: then the first one that has not been may come. -/
def downB (md : Region.Mode) (ops : Array Oper) : Bool := (List.range ops.size).all fun i => match ops[i]? with | none => true | some o => o.after.toList.all fun e => !Region.binds md e || decide (e.on < i)
theorem ready_ne {listed : Array Bool} (hs : listed.size = ops.size) (hd : downB md ops = true) : ∀ (i : Nat), i < ops.size → listed.getD i true = false → Region.ready md ops listed ≠ [] := by
  intro i
  induction i using Nat.strongRecOn with
  | ind i ih =>
    intro hi hl
    have ho : ops[i]? = some ops[i] := Array.getElem?_eq_getElem hi
    have hdi := List.all_eq_true.1 hd i (List.mem_range.2 hi)
    rw [ho] at hdi
    have hdi := List.all_eq_true.1 hdi
    by_cases c : ∀ e ∈ ops[i].after, Region.binds md e = true → listed.getD e.on false = true
    · intro q
      have : i ∈ Region.ready md ops listed := mem_ready.2 ⟨hl, ops[i], ho, fun e he hb => c e he hb⟩
      rw [q] at this
      cases this
    · have ⟨e, hc⟩ := Classical.not_forall.1 c
      have ⟨he, hc⟩ := Classical.not_imp.1 hc
      have ⟨hb, hf⟩ := Classical.not_imp.1 hc
      have lt : e.on < i := by
        have q := hdi e (by simpa using he)
        rw [hb] at q
        exact of_decide_eq_true q
      refine ih e.on lt (by omega) ?_
      have hlt : e.on < listed.size := by omega
      rw [Array.getD_eq_getD_getElem?, Array.getElem?_eq_getElem hlt] at hf ⊢
      simpa using hf
theorem all_done {listed : Array Bool} (hs : listed.size = ops.size) (hd : downB md ops = true) (h : Region.ready md ops listed = []) : ∀ i, i < ops.size → listed.getD i false = true := by
  intro i hi
  cases q : listed.getD i true with
  | true =>
    rw [Array.getD_eq_getD_getElem?, Array.getElem?_eq_getElem (by omega)] at q ⊢
    simpa using q
  | false => exact absurd h (ready_ne hs hd i hi q)
end

end Go.Proofs.Ytilebacnjagneaa
