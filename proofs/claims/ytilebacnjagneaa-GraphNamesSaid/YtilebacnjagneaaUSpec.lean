/- A region that draws its order, each of whose operations yields a value and turns nothing that was there: what each one yields, told once, in whatever order they come. No program is in sight. -/
import Derived.Test.YtilebacnjagneaaUDraw
namespace Go.Proofs.Ytilebacnjagneaa
set_option linter.unusedVariables false
open Go.RowKit

theorem below_nil {p : Nat → Prop} : ∀ i, i < 0 → p i := fun _ h => absurd h (Nat.not_lt_zero _)
theorem below_step {p : Nat → Prop} {n : Nat} (h : p n) (k : ∀ i, i < n → p i) : ∀ i, i < n + 1 → p i := fun i hi => by
  rcases Nat.lt_or_ge i n with c | c
  · exact k i c
  · rw [show i = n by omega]; exact h
section
variable {P : Program} {ops : Array Oper} {Q : Exit → Act → World → Prop}
/-- Does operation i wait for operation j? -/
def waitsB (ops : Array Oper) (i j : Nat) : Bool := match ops[i]? with | none => false | some o => o.after.toList.any fun e => e.on == j && Region.binds .any e
def dstsB (ops : Array Oper) (dl : List Nat) : Bool := (ops.toList.map fun o => o.dst) == dl.map some
/-- What has been of such a region. -/
structure SpecAt (V : World) (dl : List Nat) (sp : List (Value → World → Prop)) (a0 : Act) (listed : Array Bool) (a : Act) (W : World) : Prop where
  size : listed.size = dl.length
  wide : Wider V W
  tmps : a.tmps.size = a0.tmps.size
  defs : a.defers = a0.defers
  rest : ∀ j, j ∉ dl → a.eval (.tmp j) = a0.eval (.tmp j)
  sp : ∀ i, i < dl.length → listed.getD i false = true → sp.getD i (fun _ _ => True) (a.eval (.tmp (dl.getD i 0))) W
/-- What an operation's yield is told to be stands in wider worlds. -/
def SpMono (s : Value → World → Prop) : Prop := ∀ v w w', s v w → Wider w w' → s v w'
def AllMono (sp : List (Value → World → Prop)) : Prop := ∀ s ∈ sp, SpMono s
theorem AllMono.nil : AllMono [] := fun _ h => by cases h
theorem AllMono.cons {s : Value → World → Prop} {sp : List (Value → World → Prop)} (h : SpMono s) (k : AllMono sp) : AllMono (s :: sp) := fun t ht => by
  cases ht with
  | head => exact h
  | tail _ ht => exact k t ht
theorem AllMono.at {sp : List (Value → World → Prop)} (h : AllMono sp) (i : Nat) : SpMono (sp.getD i (fun _ _ => True)) := by
  rw [List.getD_eq_getElem?_getD]
  cases q : sp[i]? with
  | none => exact fun _ _ _ _ _ => trivial
  | some s => exact h s (List.mem_of_getElem? q)
abbrev spEq (x : Value) : Value → World → Prop := fun v _ => v = x
abbrev spIf (p : Prop) (x : Value) : Value → World → Prop := fun v _ => p → v = x
abbrev spAt (p : Prop) (R : Value → World → Prop) : Value → World → Prop := fun v w => p → R v w
theorem spEq_mono (x : Value) : SpMono (spEq x) := fun _ _ _ h _ => h
theorem spIf_mono (p : Prop) (x : Value) : SpMono (spIf p x) := fun _ _ _ h _ => h
theorem spAt_mono {p : Prop} {R : Value → World → Prop} (h : SpMono R) : SpMono (spAt p R) := fun v w w' k g e => h v w w' (k e) g
/-- What an operation has to show. -/
def SpecDo (P : Program) (ops : Array Oper) (Q : Exit → Act → World → Prop) (i d : Nat) (s : Value → World → Prop) (a : Act) (W : World) : Prop :=
  wpOp P ops Q i (fun a' W' => ∃ v, a' = a.put (some d) v ∧ Wider W W' ∧ s v W') a W
theorem wp_region_spec {id : Nat} {a0 : Act} {w0 : World} (dl : List Nat) (sp : List (Value → World → Prop)) (hm : P.follows .mixedOrders = true) (hd : downB .any ops = true) (hdst : dstsB ops dl = true) (one : dl.Nodup) (hin : ∀ d ∈ dl, d < a0.tmps.size) (mono : AllMono sp)
    (step : ∀ i, i < dl.length → ∀ a W, Wider w0 W → (∀ j, j ∉ dl → a.eval (.tmp j) = a0.eval (.tmp j)) → (∀ j, waitsB ops i j = true → sp.getD j (fun _ _ => True) (a.eval (.tmp (dl.getD j 0))) W) → SpecDo P ops Q i (dl.getD i 0) (sp.getD i (fun _ _ => True)) a W)
    (done : ∀ a W, Wider w0 W → a.tmps.size = a0.tmps.size → a.defers = a0.defers → (∀ j, j ∉ dl → a.eval (.tmp j) = a0.eval (.tmp j)) → (∀ i, i < dl.length → sp.getD i (fun _ _ => True) (a.eval (.tmp (dl.getD i 0))) W) → Q .normal a W) :
    (Code.region id ops true).wp P Q a0 w0 := by
  have hlen : dl.length = ops.size := by
    have := congrArg List.length (beq_iff_eq.1 hdst)
    simpa using this.symm
  have hdl : ∀ i o, ops[i]? = some o → o.dst = some (dl.getD i 0) := fun i o ho => by
    have := congrArg (fun l => l[i]?) (beq_iff_eq.1 hdst)
    have hi : i < dl.length := by rw [hlen]; exact (Array.getElem?_eq_some_iff.1 ho).1
    simp only [List.getElem?_map, Array.getElem?_toList, ho, Option.map_some, List.getElem?_eq_getElem hi] at this
    injection this with this
    rw [this, List.getD_eq_getElem?_getD, List.getElem?_eq_getElem hi]; rfl
  have hmem : ∀ i, i < dl.length → dl.getD i 0 ∈ dl := fun i hi => by
    rw [List.getD_eq_getElem?_getD, List.getElem?_eq_getElem hi]; exact List.getElem_mem hi
  have hne : ∀ i j, i < dl.length → j < dl.length → i ≠ j → dl.getD i 0 ≠ dl.getD j 0 := fun i j hi hj hij e => by
    rw [List.getD_eq_getElem?_getD, List.getD_eq_getElem?_getD, List.getElem?_eq_getElem hi, List.getElem?_eq_getElem hj] at e
    exact hij ((List.getElem_inj one).1 e)
  refine wp_region_inv (SpecAt w0 dl sp a0) hm ?_ ?_ ?_
  · intro listed a W hI he
    have ha := all_done (md := .any) (hI.size.trans hlen) hd he
    exact done a W hI.wide hI.tmps hI.defs hI.rest fun i hi => hI.sp i hi (ha i (by omega))
  · intro listed a W i hI hi
    obtain ⟨_, o, ho, _⟩ := mem_ready.1 hi
    have hlt : i < dl.length := by rw [hlen]; exact (Array.getElem?_eq_some_iff.1 ho).1
    refine wpOp_mono ?_ (step i hlt a W hI.wide hI.rest fun j hj => ?_)
    · rintro a' W' ⟨v, rfl, g, hv⟩
      have hdi : dl.getD i 0 < a.tmps.size := by rw [hI.tmps]; exact hin _ (hmem i hlt)
      refine ⟨by simpa using hI.size, hI.wide.trans g, by rw [← hI.tmps]; simp [Act.put], hI.defs, fun j hj => ?_, fun j hj hl => ?_⟩
      · rw [Act.eval_put_ne _ _ _ _ (fun q => hj (by rw [← q]; exact hmem i hlt))]
        exact hI.rest j hj
      · by_cases c : j = i
        · subst c
          rw [Act.eval_put_same _ _ _ hdi]
          exact hv
        · rw [Act.eval_put_ne _ _ _ _ (hne i j hlt hj (Ne.symm c))]
          rcases getD_set listed i j hl with q | q
          · exact absurd q c
          · exact mono.at j _ _ _ (hI.sp j hj q) g
    · unfold waitsB at hj
      rw [ho] at hj
      have hl := ready_pred hi ho j hj
      have hjl : j < dl.length := by
        rcases Nat.lt_or_ge j dl.length with c | c
        · exact c
        · rw [Array.getD_eq_getD_getElem?, Array.getElem?_eq_none (by rw [hI.size]; exact c)] at hl; cases hl
      exact hI.sp j hjl hl
  · exact ⟨by simp [hlen], (Wider.refl w0).drew, rfl, rfl, fun _ _ => rfl, fun i hi h => absurd h (by rw [Array.getD_eq_getD_getElem?]; simp [Array.getElem?_replicate]; split <;> simp)⟩

/-! ### How an operation shows it -/
variable {i d : Nat} {o : Oper} {s : Value → World → Prop} {a : Act} {W : World}
theorem spec_wp (ho : ops[i]? = some o) (hw : Region.wanted o (yielded ops a.tmps) = true) (h : o.wp P a W (fun a' W' => ∃ v, a' = a.put (some d) v ∧ Wider W W' ∧ s v W') Q) : SpecDo P ops Q i d s a W := wpOp_of ho hw h
/-- An operation without guard. -/
theorem spec_plain (ho : ops[i]? = some o) (hg : o.guard = none) (h : o.wp P a W (fun a' W' => ∃ v, a' = a.put (some d) v ∧ Wider W W' ∧ s v W') Q) : SpecDo P ops Q i d s a W := wpOp_of ho (wanted_plain hg) h
/-- A guarded one: nothing to show where it isn't wanted. -/
theorem spec_guard {g dg : Nat} {og : Oper} {b c : Bool} (ho : ops[i]? = some o) (hg : o.guard = some (g, c)) (hog : ops[g]? = some og) (hdg : og.dst = some dg) (hb : a.eval (.tmp dg) = .bool b) (hd : o.dst = some d)
    (no : b ≠ c → s undef W) (yes : b = c → o.wp P a W (fun a' W' => ∃ v, a' = a.put (some d) v ∧ Wider W W' ∧ s v W') Q) : SpecDo P ops Q i d s a W := by
  by_cases e : b = c
  · exact wpOp_of ho (wanted_guard (b := c) hg hog hdg (by rw [hb, e])) (yes e)
  · unfold SpecDo wpOp
    rw [ho]
    have hv : a.tmps[dg]? = some (.bool b) := by
      have hb : a.tmps.getD dg undef = .bool b := hb
      rw [Array.getD_eq_getD_getElem?] at hb
      cases q : a.tmps[dg]? with
      | none => rw [q] at hb; cases hb
      | some x => rw [q] at hb; simp at hb; rw [hb]
    have nw : Region.wanted o (yielded ops a.tmps) = false := by
      simp [Region.wanted, hg, yielded, hog, hdg, hv, e]
    simp only [nw]
    exact ⟨undef, by rw [hd], Wider.refl W, no e⟩
theorem wp_yield {v : Value} {W' : World} (hd : o.dst = some d) (h : (execOp a.eval o).run P W = .ok (.value v) W') (g : Wider W W') (hs : s v W') : o.wp P a W (fun a' W' => ∃ v, a' = a.put (some d) v ∧ Wider W W' ∧ s v W') Q := by
  unfold Oper.wp
  rw [h, Oper.upon_value, hd]
  exact ⟨v, rfl, g, hs⟩
theorem run_enter {f : FuncId} (h : (P.funcs[f]?.map fun fn => (fn.name == "runtime.NumGoroutine", fn.body.isNone)) = some (false, false)) (args : Array Value) (w : World) : (callFunc f args).run P w = .ok (.enter f args) w := by
  cases hf : P.funcs[f]? with
  | none => rw [hf] at h; cases h
  | some fn =>
    rw [hf] at h
    simp only [Option.map_some, Option.some.injEq, Prod.mk.injEq] at h
    obtain ⟨h1, h2⟩ := h
    have h3 : fn.name ≠ "runtime.NumGoroutine" := fun e => by rw [e] at h1; cases h1
    have h4 : fn.body ≠ none := fun e => by rw [e] at h2; cases h2
    simp [callFunc, hf, h3, h4]
theorem args1 {x : Operand} {v : Value} (h : a.eval x = v) : (#[x] : Array Operand).map a.eval = #[v] := by subst h; simp
theorem args2 {x y : Operand} {u v : Value} (h : a.eval x = u) (k : a.eval y = v) : (#[x, y] : Array Operand).map a.eval = #[u, v] := by subst h k; simp
theorem args3 {x y z : Operand} {u v t : Value} (h : a.eval x = u) (k : a.eval y = v) (l : a.eval z = t) : (#[x, y, z] : Array Operand).map a.eval = #[u, v, t] := by subst h k l; simp
theorem wp_asks {f : FuncId} {args : Array Operand} {ts : Array TypeId} {vs : Array Value} (hd : o.dst = some d) (hop : o.op = .call { callee := .value (.func f), args := args, argTypes := ts }) (hx : args.map a.eval = vs) (hf : (P.funcs[f]?.map fun fn => (fn.name == "runtime.NumGoroutine", fn.body.isNone)) = some (false, false))
    (hc : Calls P f vs W fun e W' => ∃ v, e = .returned v ∧ Wider W W' ∧ s v W') : o.wp P a W (fun a' W' => ∃ v, a' = a.put (some d) v ∧ Wider W W' ∧ s v W') Q := by
  subst hx
  have h : (execOp a.eval o).run P W = .ok (.enter f (args.map a.eval)) W := by
    unfold execOp
    simp [hop, resolve, invoke, Act.eval, Deferred.ofValue, run_enter hf]
  unfold Oper.wp
  rw [h, Oper.upon_enter]
  refine hc.mono ?_
  rintro e W' ⟨v, rfl, g, hv⟩
  rw [hd]
  exact ⟨v, rfl, g, hv⟩
theorem exec_call {f : FuncId} {args : Array Operand} {ts : Array TypeId} {vs : Array Value} (hop : o.op = .call { callee := .value (.func f), args := args, argTypes := ts }) (hx : args.map a.eval = vs)
    (hf : (P.funcs[f]?.map fun fn => (fn.name == "runtime.NumGoroutine", fn.body.isNone)) = some (false, false)) : (execOp a.eval o).run P W = .ok (.enter f vs) W := by
  subst hx
  unfold execOp
  simp [hop, resolve, invoke, Act.eval, Deferred.ofValue, run_enter hf]
theorem exec_move {x : Operand} {v : Value} (hop : o.op = .move x) (hx : a.eval x = v) : (execOp a.eval o).run P W = .ok (.value v) W := by
  unfold execOp; simp only [hop, hx, Sem.run_pure]
theorem exec_assign {x : Operand} {v : Value} (hop : o.op = .assign x) (hx : a.eval x = v) : (execOp a.eval o).run P W = .ok (.value v) W := by
  unfold execOp; simp only [hop, hx, Sem.run_pure]
theorem exec_pick {c x y : Operand} {b : Bool} {v : Value} (hop : o.op = .pick c x y) (hc : a.eval c = .bool b) (ht : b = true → a.eval x = v) (hf : b = false → a.eval y = v) : (execOp a.eval o).run P W = .ok (.value v) W := by
  unfold execOp
  simp only [hop, hc]
  cases b
  · rw [hf rfl]; rfl
  · rw [ht rfl]; rfl
theorem and_yes {q r : Bool} (h : q = true) : Value.bool r = .bool (q && r) := by subst h; rfl
theorem and_no {q r : Bool} (h : q = false) : Value.bool false = .bool (q && r) := by subst h; rfl
theorem and_to {q r s : Bool} (h : q = true) (e : (q && r) = s) : Value.bool r = .bool s := by subst h; rw [← e]; rfl
theorem no_to {q r s : Bool} (h : q = false) (e : (q && r) = s) : Value.bool false = .bool s := by subst h; rw [← e]; rfl
theorem or_yes {q r : Bool} (h : q = true) : Value.bool true = .bool (q || r) := by subst h; rfl
theorem or_no {q r : Bool} (h : q = false) : Value.bool r = .bool (q || r) := by subst h; rfl
end

end Go.Proofs.Ytilebacnjagneaa
