/- Messages by their parts: a message's cells stand as ONE name, its objects are parts of them; loads and stores of whole parts. -/
import Derived.Test.YtilpimilbjcifaaGreatDoorORepG
import Derived.Deep.MidRow
import Derived.Test.YtilpimilbjcifaaGreatDoorQuiet
namespace Go.Proofs.YtilpimilbjcifaaGreatDoor
set_option linter.unusedVariables false
set_option maxRecDepth 20000
open Go.ChangeShapes Go.WideShapes Go.ChangeAt Go.RowKit Go.Joins
open Go.ChangeMaps (open_string shut_string)

theorem extract_get (M : Array Value) (a b j : Nat) (hb : b ≤ M.size) : (M.extract a b)[j]? = if a + j < b then M[a + j]? else none := by
  rw [Array.getElem?_extract, Nat.min_eq_left hb]
  by_cases h : a + j < b
  · rw [if_pos (by omega), if_pos h]
  · rw [if_neg (by omega), if_neg h]
theorem range_part {w : World} {g : Nat} {C : Array Value} {t : TypeId} (hg : w.heap[g]? = some (.cells C t (0, 0))) (o n : Nat) (hn : o + n ≤ C.size) : w.rangeAt g o (C.extract o (o + n)).toList := by
  intro j v hv
  rw [Array.getElem?_toList] at hv
  rw [extract_get C o (o + n) j hn] at hv
  split at hv
  · exact blk_cell hg (o + j) hv
  · cases hv
theorem run_load_part {P : Program} {w : World} {g : Nat} {C : Array Value} {t : TypeId} (hg : w.heap[g]? = some (.cells C t (0, 0))) (ty : TypeId) (o n e : Nat) (he : o + n = e) (d : TypeDesc) (hn : e ≤ C.size)
    (hu : P.underlying ty = some d) (hd : d.isRow = true) (hi : (P.info? ty).map (·.size) = some n) : (Instr.loadAt ty (.pointer (some ⟨g, o, none⟩))).run P w = .ok (.agg (C.extract o e)) w := by
  subst he
  have h := run_loadAt_mid (P := P) w g o ty (C.extract o (o + n)).toList d (range_part hg o n hn) hu hd (by rw [hi, Array.length_toList, Array.size_extract]; congr 1; omega)
  rw [Array.toArray_toList] at h
  exact h
theorem wpList_load_part {P : Program} {ops : Array Oper} {rest : List Oper} {op : Oper} {a : Act} {w : World} {Q : Exit → Act → World → Prop} (hgd : op.guard = none) (ty : TypeId) (x : Operand) (hop : op.op = .load ty x)
    (g o n e : Nat) (he : o + n = e) (hx : a.eval x = .pointer (some ⟨g, o, none⟩)) {t : TypeId} {C : Array Value} (d : TypeDesc) (hg : w.heap[g]? = some (.cells C t (0, 0))) (hn : e ≤ C.size)
    (hu : P.underlying ty = some d) (hd : d.isRow = true) (hi : (P.info? ty).map (·.size) = some n)
    (h : wpList P ops Q rest (a.put op.dst (.agg (C.extract o e))) w) : wpList P ops Q (op :: rest) a w := by
  subst he
  refine wpList_load_mid hgd ty x hop g o hx (C.extract o (o + n)).toList d (range_part hg o n hn) hu hd (by rw [hi, Array.length_toList, Array.size_extract]; congr 1; omega) ?_
  rw [Array.toArray_toList]
  exact h
theorem wp_load_part {P : Program} {op : Oper} {a : Act} {w : World} {K : Act → World → Prop} {Q : Exit → Act → World → Prop} (ty : TypeId) (x : Operand) (hop : op.op = .load ty x)
    (g o n e : Nat) (he : o + n = e) (hx : a.eval x = .pointer (some ⟨g, o, none⟩)) {t : TypeId} {C : Array Value} (d : TypeDesc) (hg : w.heap[g]? = some (.cells C t (0, 0))) (hn : e ≤ C.size)
    (hu : P.underlying ty = some d) (hd : d.isRow = true) (hi : (P.info? ty).map (·.size) = some n)
    (h : K (a.put op.dst (.agg (C.extract o e))) w) : op.wp P a w K Q := by
  subst he
  refine wp_load_mid ty x hop g o hx (C.extract o (o + n)).toList d (range_part hg o n hn) hu hd (by rw [hi, Array.length_toList, Array.size_extract]; congr 1; omega) ?_
  rw [Array.toArray_toList]
  exact h


/-! ### A part set anew -/
def setPart (M : Array Value) (o : Nat) (c : Array Value) : Array Value := (M.toList.take o ++ c.toList ++ M.toList.drop (o + c.size)).toArray
theorem setPart_size {M : Array Value} {o : Nat} {c : Array Value} (h : o + c.size ≤ M.size) : (setPart M o c).size = M.size := by
  simp [setPart]; omega
theorem setPart_get {M : Array Value} {o : Nat} {c : Array Value} (h : o + c.size ≤ M.size) (j : Nat) : (setPart M o c)[j]? = if o ≤ j ∧ j < o + c.size then c[j - o]? else M[j]? := by
  have hl : (M.toList.take o).length = o := by simp; omega
  unfold setPart
  rw [List.getElem?_toArray]
  by_cases h1 : j < o
  · rw [if_neg (by omega), List.append_assoc, List.getElem?_append_left (by omega), List.getElem?_take_of_lt h1, Array.getElem?_toList]
  · by_cases h2 : j < o + c.size
    · rw [if_pos ⟨by omega, h2⟩, List.append_assoc, List.getElem?_append_right (by omega), hl, List.getElem?_append_left (by simp; omega), Array.getElem?_toList]
    · rw [if_neg (by omega), List.getElem?_append_right (by simp; omega), List.getElem?_drop]
      simp only [List.length_append, hl, Array.length_toList, Array.getElem?_toList]
      congr 1; omega
theorem extract_same {M N : Array Value} {a b : Nat} (hs : M.size = N.size) (hb : b ≤ M.size) (h : ∀ j, a ≤ j → j < b → M[j]? = N[j]?) : M.extract a b = N.extract a b := by
  apply Array.ext_getElem?
  intro i
  rw [extract_get M a b i hb, extract_get N a b i (by omega)]
  by_cases c : a + i < b
  · rw [if_pos c, if_pos c, h _ (by omega) c]
  · rw [if_neg c, if_neg c]
theorem setPart_self {M : Array Value} {o b : Nat} {c : Array Value} (hb : b = o + c.size) (h : o + c.size ≤ M.size) : (setPart M o c).extract o b = c := by
  subst hb
  apply Array.ext_getElem?
  intro i
  rw [extract_get _ _ _ _ (by rw [setPart_size h]; exact h)]
  by_cases k : o + i < o + c.size
  · rw [if_pos k, setPart_get h, if_pos ⟨by omega, k⟩, Nat.add_sub_cancel_left]
  · rw [if_neg k, Array.getElem?_eq_none (by omega)]
theorem setPart_apart {M : Array Value} {o a b : Nat} {c : Array Value} (h : o + c.size ≤ M.size) (hb : b ≤ M.size) (hab : b ≤ o ∨ o + c.size ≤ a) : (setPart M o c).extract a b = M.extract a b :=
  extract_same (setPart_size h) (by rw [setPart_size h]; exact hb) fun j h1 h2 => by rw [setPart_get h, if_neg (by omega)]

/-! ### A field's place -/
theorem run_fieldAt {P : Program} {t : TypeId} {fs : Array Field} {i : Nat} {f : Field} (hu : P.underlying t = some (.struct fs)) (hf : fs[i]? = some f) {n : Nat} (hs : (P.info? f.type).map (·.size) = some (n + 1)) (w : World) (g o : Nat) :
    (Instr.fieldAt t (.pointer (some ⟨g, o, none⟩)) i).run P w = .ok (.pointer (some ⟨g, o + f.offset, none⟩)) w := by
  cases hi : P.info? f.type with
  | none => simp [hi] at hs
  | some j =>
    have hj : j.size = n + 1 := by simpa [hi] using hs
    simp [Instr.fieldAt, run_underlying hu, hf, Instr.sureAddr, fieldPlace, sizeOf, typeInfo, hi, hj, Addr.add]
theorem wp_field {P : Program} {op : Oper} {a : Act} {w : World} {K : Act → World → Prop} {Q : Exit → Act → World → Prop} (t : TypeId) (x : Operand) (i : Nat) (hop : op.op = .fieldAddr t x i)
    (g o e : Nat) (hx : a.eval x = .pointer (some ⟨g, o, none⟩)) (hrun : ∀ w : World, (Instr.fieldAt t (.pointer (some ⟨g, o, none⟩)) i).run P w = .ok (.pointer (some ⟨g, e, none⟩)) w)
    (h : K (a.put op.dst (.pointer (some ⟨g, e, none⟩))) w) : op.wp P a w K Q := by
  unfold Oper.wp execOp
  simp only [hop, hx, Sem.run_bind, hrun, Result.andThen_ok, Sem.run_pure]
  exact h
theorem wpList_field {P : Program} {ops : Array Oper} {rest : List Oper} {op : Oper} {a : Act} {w : World} {Q : Exit → Act → World → Prop} (hgd : op.guard = none) (t : TypeId) (x : Operand) (i : Nat) (hop : op.op = .fieldAddr t x i)
    (g o e : Nat) (hx : a.eval x = .pointer (some ⟨g, o, none⟩)) (hrun : ∀ w : World, (Instr.fieldAt t (.pointer (some ⟨g, o, none⟩)) i).run P w = .ok (.pointer (some ⟨g, e, none⟩)) w)
    (h : wpList P ops Q rest (a.put op.dst (.pointer (some ⟨g, e, none⟩))) w) : wpList P ops Q (op :: rest) a w :=
  wpList_plain hgd fun _ hK => wp_field t x i hop g o e hx hrun (hK _ _ h)
theorem fieldM0 (g : Nat) (w : World) : (Instr.fieldAt 51 (.pointer (some ⟨g, 0, none⟩)) 0).run Tryz.prog w = .ok (.pointer (some ⟨g, 0, none⟩)) w := by
  have h := run_fieldAt (P := Tryz.prog) (i := 0) (n := 0) Tryz.underlying51 rfl (by kernel_rfl) w g 0
  simpa using h
theorem fieldM1 (g : Nat) (w : World) : (Instr.fieldAt 51 (.pointer (some ⟨g, 0, none⟩)) 1).run Tryz.prog w = .ok (.pointer (some ⟨g, 1, none⟩)) w := by
  have h := run_fieldAt (P := Tryz.prog) (i := 1) (n := 0) Tryz.underlying51 rfl (by kernel_rfl) w g 0
  simpa using h
theorem fieldM2 (g : Nat) (w : World) : (Instr.fieldAt 51 (.pointer (some ⟨g, 0, none⟩)) 2).run Tryz.prog w = .ok (.pointer (some ⟨g, 2, none⟩)) w := by
  have h := run_fieldAt (P := Tryz.prog) (i := 2) (n := 0) Tryz.underlying51 rfl (by kernel_rfl) w g 0
  simpa using h
theorem fieldM3 (g : Nat) (w : World) : (Instr.fieldAt 51 (.pointer (some ⟨g, 0, none⟩)) 3).run Tryz.prog w = .ok (.pointer (some ⟨g, 3, none⟩)) w := by
  have h := run_fieldAt (P := Tryz.prog) (i := 3) (n := 0) Tryz.underlying51 rfl (by kernel_rfl) w g 0
  simpa using h
theorem fieldM4 (g : Nat) (w : World) : (Instr.fieldAt 51 (.pointer (some ⟨g, 0, none⟩)) 4).run Tryz.prog w = .ok (.pointer (some ⟨g, 4, none⟩)) w := by
  have h := run_fieldAt (P := Tryz.prog) (i := 4) (n := 0) Tryz.underlying51 rfl (by kernel_rfl) w g 0
  simpa using h
theorem fieldM5 (g : Nat) (w : World) : (Instr.fieldAt 51 (.pointer (some ⟨g, 0, none⟩)) 5).run Tryz.prog w = .ok (.pointer (some ⟨g, 5, none⟩)) w := by
  have h := run_fieldAt (P := Tryz.prog) (i := 5) (n := 0) Tryz.underlying51 rfl (by kernel_rfl) w g 0
  simpa using h
theorem fieldM6 (g : Nat) (w : World) : (Instr.fieldAt 51 (.pointer (some ⟨g, 0, none⟩)) 6).run Tryz.prog w = .ok (.pointer (some ⟨g, 6, none⟩)) w := by
  have h := run_fieldAt (P := Tryz.prog) (i := 6) (n := 0) Tryz.underlying51 rfl (by kernel_rfl) w g 0
  simpa using h
theorem fieldM7 (g : Nat) (w : World) : (Instr.fieldAt 51 (.pointer (some ⟨g, 0, none⟩)) 7).run Tryz.prog w = .ok (.pointer (some ⟨g, 7, none⟩)) w := by
  have h := run_fieldAt (P := Tryz.prog) (i := 7) (n := 0) Tryz.underlying51 rfl (by kernel_rfl) w g 0
  simpa using h
theorem fieldM8 (g : Nat) (w : World) : (Instr.fieldAt 51 (.pointer (some ⟨g, 0, none⟩)) 8).run Tryz.prog w = .ok (.pointer (some ⟨g, 8, none⟩)) w := by
  have h := run_fieldAt (P := Tryz.prog) (i := 8) (n := 0) Tryz.underlying51 rfl (by kernel_rfl) w g 0
  simpa using h
theorem fieldM9 (g : Nat) (w : World) : (Instr.fieldAt 51 (.pointer (some ⟨g, 0, none⟩)) 9).run Tryz.prog w = .ok (.pointer (some ⟨g, 9, none⟩)) w := by
  have h := run_fieldAt (P := Tryz.prog) (i := 9) (n := 0) Tryz.underlying51 rfl (by kernel_rfl) w g 0
  simpa using h
theorem fieldM10 (g : Nat) (w : World) : (Instr.fieldAt 51 (.pointer (some ⟨g, 0, none⟩)) 10).run Tryz.prog w = .ok (.pointer (some ⟨g, 10, none⟩)) w := by
  have h := run_fieldAt (P := Tryz.prog) (i := 10) (n := 0) Tryz.underlying51 rfl (by kernel_rfl) w g 0
  simpa using h
theorem fieldM11 (g : Nat) (w : World) : (Instr.fieldAt 51 (.pointer (some ⟨g, 0, none⟩)) 11).run Tryz.prog w = .ok (.pointer (some ⟨g, 11, none⟩)) w := by
  have h := run_fieldAt (P := Tryz.prog) (i := 11) (n := 8) Tryz.underlying51 rfl (by kernel_rfl) w g 0
  simpa using h
theorem fieldM12 (g : Nat) (w : World) : (Instr.fieldAt 51 (.pointer (some ⟨g, 0, none⟩)) 12).run Tryz.prog w = .ok (.pointer (some ⟨g, 20, none⟩)) w := by
  have h := run_fieldAt (P := Tryz.prog) (i := 12) (n := 4) Tryz.underlying51 rfl (by kernel_rfl) w g 0
  simpa using h
theorem fieldM13 (g : Nat) (w : World) : (Instr.fieldAt 51 (.pointer (some ⟨g, 0, none⟩)) 13).run Tryz.prog w = .ok (.pointer (some ⟨g, 25, none⟩)) w := by
  have h := run_fieldAt (P := Tryz.prog) (i := 13) (n := 4) Tryz.underlying51 rfl (by kernel_rfl) w g 0
  simpa using h
theorem fieldM14 (g : Nat) (w : World) : (Instr.fieldAt 51 (.pointer (some ⟨g, 0, none⟩)) 14).run Tryz.prog w = .ok (.pointer (some ⟨g, 30, none⟩)) w := by
  have h := run_fieldAt (P := Tryz.prog) (i := 14) (n := 10) Tryz.underlying51 rfl (by kernel_rfl) w g 0
  simpa using h
theorem fieldM15 (g : Nat) (w : World) : (Instr.fieldAt 51 (.pointer (some ⟨g, 0, none⟩)) 15).run Tryz.prog w = .ok (.pointer (some ⟨g, 41, none⟩)) w := by
  have h := run_fieldAt (P := Tryz.prog) (i := 15) (n := 1) Tryz.underlying51 rfl (by kernel_rfl) w g 0
  simpa using h
theorem fieldM16 (g : Nat) (w : World) : (Instr.fieldAt 51 (.pointer (some ⟨g, 0, none⟩)) 16).run Tryz.prog w = .ok (.pointer (some ⟨g, 43, none⟩)) w := by
  have h := run_fieldAt (P := Tryz.prog) (i := 16) (n := 3) Tryz.underlying51 rfl (by kernel_rfl) w g 0
  simpa using h
theorem fieldM17 (g : Nat) (w : World) : (Instr.fieldAt 51 (.pointer (some ⟨g, 0, none⟩)) 17).run Tryz.prog w = .ok (.pointer (some ⟨g, 47, none⟩)) w := by
  have h := run_fieldAt (P := Tryz.prog) (i := 17) (n := 2) Tryz.underlying51 rfl (by kernel_rfl) w g 0
  simpa using h
theorem fieldM18 (g : Nat) (w : World) : (Instr.fieldAt 51 (.pointer (some ⟨g, 0, none⟩)) 18).run Tryz.prog w = .ok (.pointer (some ⟨g, 50, none⟩)) w := by
  have h := run_fieldAt (P := Tryz.prog) (i := 18) (n := 1) Tryz.underlying51 rfl (by kernel_rfl) w g 0
  simpa using h

/-! ### A plain region whose operations turn nothing: one value in each world that is wider -/
theorem wpList_of_quiet {P : Program} {ops : Array Oper} {C : World → Prop} {Q : Act → Prop} {Q' : Exit → Act → World → Prop} (hQ : ∀ a w, C w → Q a → Q' .normal a w) : ∀ (l : List Oper) (a : Act) (w : World), C w → wpQuiet P ops C Q l a → wpList P ops Q' l a w
  | [], a, w, hw, h => hQ a w hw h
  | o :: rest, a, w, hw, h => by
    unfold wpQuiet at h
    unfold wpList
    split
    · rename_i c
      rw [if_pos c] at h
      exact .inl (Oper.wp_of_quiet hw (fun a' w' hw' k => wpList_of_quiet hQ rest a' w' hw' k) h)
    · rename_i c
      rw [if_neg c] at h
      exact wpList_of_quiet hQ rest _ _ hw h
theorem wp_region_plain {P : Program} {V : World} {id : Nat} {Q : Exit → Act → World → Prop} {a : Act} {w : World} {l : List Oper} (g : Wider V w)
    (h : wpQuiet P l.toArray (fun w' => ∃ x : After V, w' = x.w) (fun a' => ∀ w', (∃ x : After V, w' = x.w) → Q .normal a' w') l a) : (Code.region id l.toArray false).wp P Q a w :=
  wp_region_lit (wpList_of_quiet (C := fun w' => ∃ x : After V, w' = x.w) (fun a' w' hw' k => k w' hw') l a w ⟨⟨w, g⟩, rfl⟩ h)
theorem wpList_prefix {P : Program} {ops : Array Oper} {C : World → Prop} {K : Act → Prop} {Q' : Exit → Act → World → Prop} {l2 : List Oper} (hQ : ∀ a w, C w → K a → wpList P ops Q' l2 a w) : ∀ (l : List Oper) (a : Act) (w : World), C w → wpQuiet P ops C K l a → wpList P ops Q' (l ++ l2) a w
  | [], a, w, hw, h => hQ a w hw h
  | o :: rest, a, w, hw, h => by
    unfold wpQuiet at h
    rw [List.cons_append]
    unfold wpList
    split
    · rename_i c
      rw [if_pos c] at h
      exact .inl (Oper.wp_of_quiet hw (fun a' w' hw' k => wpList_prefix hQ rest a' w' hw' k) h)
    · rename_i c
      rw [if_neg c] at h
      exact wpList_prefix hQ rest _ _ hw h
/-- The first n operations turn nothing; the others by a walk of their own. -/
theorem wp_region_prefix {P : Program} {V : World} {id : Nat} {Q : Exit → Act → World → Prop} {a : Act} {w : World} {l : List Oper} (n : Nat) (g : Wider V w)
    (h : wpQuiet P l.toArray (fun w' => ∃ x : After V, w' = x.w) (fun a' => ∀ w', (∃ x : After V, w' = x.w) → wpList P l.toArray Q (l.drop n) a' w') (l.take n) a) : (Code.region id l.toArray false).wp P Q a w := by
  refine wp_region_lit ?_
  have q := wpList_prefix (C := fun w' => ∃ x : After V, w' = x.w) (fun a' w' hw' k => k w' hw') (l.take n) a w ⟨⟨w, g⟩, rfl⟩ h
  rwa [List.take_append_drop] at q
theorem quiet_field {P : Program} {op : Oper} {a : Act} {Cl : World → Prop} {K : Act → Prop} (t : TypeId) (x : Operand) (i : Nat) (hop : op.op = .fieldAddr t x i)
    (g o e : Nat) (hx : a.eval x = .pointer (some ⟨g, o, none⟩)) (hrun : ∀ w : World, (Instr.fieldAt t (.pointer (some ⟨g, o, none⟩)) i).run P w = .ok (.pointer (some ⟨g, e, none⟩)) w)
    (h : K (a.put op.dst (.pointer (some ⟨g, e, none⟩)))) : op.quiet P a Cl K :=
  ⟨_, fun w _ => by unfold Oper.quietAt execOp; simp only [hop, hx, Sem.run_bind, hrun, Result.andThen_ok, Sem.run_pure]; exact ⟨rfl, rfl⟩, h⟩
theorem quiet_load {P : Program} {op : Oper} {a : Act} {Cl : World → Prop} {K : Act → Prop} (ty : TypeId) (x : Operand) (hop : op.op = .load ty x)
    (g o n e : Nat) (he : o + n = e) (hx : a.eval x = .pointer (some ⟨g, o, none⟩)) {t : TypeId} {C : Array Value} (d : TypeDesc) (hg : ∀ w, Cl w → w.heap[g]? = some (.cells C t (0, 0))) (hn : e ≤ C.size)
    (hu : P.underlying ty = some d) (hd : d.isRow = true) (hi : (P.info? ty).map (·.size) = some n)
    (h : K (a.put op.dst (.agg (C.extract o e)))) : op.quiet P a Cl K :=
  ⟨_, fun w hw => by unfold Oper.quietAt execOp; simp only [hop, hx, Sem.run_bind, run_load_part (hg w hw) ty o n e he d hn hu hd hi, Result.andThen_ok, Sem.run_pure]; exact ⟨rfl, rfl⟩, h⟩
theorem quiet_row {P : Program} {op : Oper} {a : Act} {Cl : World → Prop} {K : Act → Prop} (ty : TypeId) (x : Operand) (hop : op.op = .load ty x)
    (g : Nat) (hx : a.eval x = .pointer (some ⟨g, 0, none⟩)) {t : TypeId} {C : Array Value} (d : TypeDesc) (hg : ∀ w, Cl w → w.heap[g]? = some (.cells C t (0, 0)))
    (hu : P.underlying ty = some d) (hd : d.isRow = true) (hi : (P.info? ty).map (·.size) = some C.size)
    (h : K (a.put op.dst (.agg C))) : op.quiet P a Cl K :=
  ⟨_, fun w hw => by
    have q := run_load_part (hg w hw) ty 0 C.size C.size (Nat.zero_add _) d (Nat.le_refl _) hu hd hi
    rw [show C.extract 0 C.size = C by simp] at q
    unfold Oper.quietAt execOp; simp only [hop, hx, Sem.run_bind, q, Result.andThen_ok, Sem.run_pure]; exact ⟨rfl, rfl⟩, h⟩
theorem quiet_build {P : Program} {op : Oper} {a : Act} {Cl : World → Prop} {K : Act → Prop} (t : TypeId) (parts : Array (Nat × Operand)) (hop : op.op = .build t parts)
    {ps : Array (Nat × Value)} (hps : (parts.map fun (i, x) => (i, a.eval x)) = ps) {cells : Array Value} (hrun : ∀ w, (Instr.build t ps).run P w = .ok (.agg cells) w)
    (h : K (a.put op.dst (.agg cells))) : op.quiet P a Cl K :=
  ⟨_, fun w hw => by
    subst hps
    unfold Oper.quietAt execOp; simp only [hop, Sem.run_bind, hrun, Result.andThen_ok, Sem.run_pure]; exact ⟨rfl, rfl⟩, h⟩
theorem after_blk {V : World} {g : Nat} {C : Array Value} {t : TypeId} (h : V.heap[g]? = some (.cells C t (0, 0))) : ∀ w, (∃ x : After V, w = x.w) → w.heap[g]? = some (.cells C t (0, 0)) := by
  rintro w ⟨x, rfl⟩
  exact wide_blk h x.h

/-! ### Literals by parts -/
theorem foldl_set (off : Nat) : ∀ (l : List Value) (k : Nat) (C : Array Value), off + k + l.length ≤ C.size → ∀ p, ((l.zipIdx k).foldl (fun cs (x : Value × Nat) => cs.setIfInBounds (off + x.2) x.1) C)[p]? = if off + k ≤ p ∧ p < off + k + l.length then l[p - (off + k)]? else C[p]?
  | [], k, C, _, p => by rw [if_neg (by simp)]; rfl
  | v :: l, k, C, h, p => by
    have h2 : off + k + (l.length + 1) ≤ C.size := h
    rw [List.zipIdx_cons, List.foldl_cons, foldl_set off l (k + 1) _ (by simp; omega) p]
    simp only [List.length_cons]
    by_cases c : p = off + k
    · subst c
      rw [if_neg (by omega), if_pos (by omega), Nat.sub_self, Array.getElem?_setIfInBounds_self_of_lt (by omega)]
      rfl
    · by_cases c2 : off + (k + 1) ≤ p ∧ p < off + (k + 1) + l.length
      · rw [if_pos c2, if_pos (by omega), show p - (off + k) = (p - (off + (k + 1))) + 1 by omega, List.getElem?_cons_succ]
      · rw [if_neg c2, if_neg (by omega), Array.getElem?_setIfInBounds_ne (by omega)]
theorem foldl_part (off : Nat) (c C : Array Value) (h : off + c.size ≤ C.size) : c.zipIdx.foldl (fun cs (x, j) => cs.setIfInBounds (off + j) x) C = setPart C off c := by
  apply Array.ext_getElem?
  intro p
  rw [setPart_get h, ← Array.foldl_toList, Array.toList_zipIdx]
  have q := foldl_set off c.toList 0 C (by simpa using h) p
  simp only [Nat.add_zero, Array.length_toList, Array.getElem?_toList] at q
  exact q
theorem fill_cons {place : Nat → Option (Nat × Nat)} {C c : Array Value} {i off : Nat} {v : Value} {rest : List (Nat × Value)} (hv : v.cells = c) (hp : place i = some (off, c.size)) (ho : off + c.size ≤ C.size) :
    Instr.fill place C ((i, v) :: rest) = Instr.fill place (setPart C off c) rest := by
  rw [Instr.fill, hp, hv]
  simp only
  rw [if_neg (by simp; omega), foldl_part off c C ho]
theorem fill_nil {place : Nat → Option (Nat × Nat)} {C : Array Value} : Instr.fill place C [] = some C := rfl
theorem wpList_extract {P : Program} {ops : Array Oper} {rest : List Oper} {op : Oper} {a : Act} {w : World} {Q : Exit → Act → World → Prop} (hgd : op.guard = none) (x : Operand) (i : Nat) (hop : op.op = .extract x i)
    {vs : Array Value} (hx : a.eval x = .tuple vs) {v : Value} (hv : vs[i]? = some v) (h : wpList P ops Q rest (a.put op.dst v) w) : wpList P ops Q (op :: rest) a w := by
  refine wpList_plain hgd fun _ hK => ?_
  have hh := hK _ _ h
  unfold Oper.wp execOp
  simp only [hop, hx, Instr.extract, hv, Sem.run_bind, Result.andThen_ok, Sem.run_pure]
  exact hh
/-- A struct's literal with one field. -/
theorem run_build_one {P : Program} (w : World) (t : TypeId) (i off : Nat) (v : Value) (c : Array Value) (fs : Array Field) (places : List (Nat × Nat)) (z : Value)
    (hz : (P.info? t).bind (·.zero) = some z) (hu : P.underlying t = some (.struct fs)) (hp : fs.toList.mapM (fun f => (P.info? f.type).map fun i => (f.offset, i.size)) = some places)
    (hi : places[i]? = some (off, c.size)) (hv : v.cells = c) (ho : off + c.size ≤ z.cells.size) : (Instr.build t #[(i, v)]).run P w = .ok (.agg (setPart z.cells off c)) w := by
  refine run_build w t #[(i, v)] _ ?_
  unfold Program.built
  cases hit : P.info? t with
  | none => rw [hit] at hz; cases hz
  | some it =>
    rw [hit] at hz
    have hz : it.zero = some z := hz
    simp only [hu, hz, hp]
    rw [fill_cons hv (by simpa using hi) ho, fill_nil]
theorem wpList_run_val {P : Program} {ops : Array Oper} {rest : List Oper} {op : Oper} {a : Act} {w : World} {Q : Exit → Act → World → Prop} (hgd : op.guard = none) (t : TypeId) (parts : Array (Nat × Operand)) (hop : op.op = .build t parts)
    {ps : Array (Nat × Value)} (hps : (parts.map fun (i, x) => (i, a.eval x)) = ps) {cells : Array Value} (hrun : (Instr.build t ps).run P w = .ok (.agg cells) w)
    (h : wpList P ops Q rest (a.put op.dst (.agg cells)) w) : wpList P ops Q (op :: rest) a w := by
  subst hps
  refine wpList_plain hgd fun _ hK => ?_
  have hh := hK _ _ h
  unfold Oper.wp execOp
  simp only [hop, Sem.run_bind, hrun, Result.andThen_ok, Sem.run_pure]
  exact hh

/-! ### Messages -/
/-- The cells M are a message, the values of whose objects V tells: by parts. -/
structure RepA (w : World) (M : Array Value) (V : Nat → List ValN) : Prop where
  size : M.size = 52
  r0 : RepNode w (M.extract 11 20) (V 0)
  r1 : RepField w (M.extract 20 25) (V 1)
  r2 : RepTable w (M.extract 25 30) (V 2)
  r3 : RepEntry w (M.extract 30 41) (V 3)
  r4 : RepBlock w (M.extract 41 43) (V 4)
  r5 : RepGroup w (M.extract 43 47) (V 5)
  r6 : RepMeter w (M.extract 47 50) (V 6)
  r7 : RepRegs w (M.extract 50 52) (V 7)
theorem RepA.on {W w : World} {M : Array Value} {V : Nat → List ValN} (h : RepA W M V) (g : Wider W w) : RepA w M V :=
  ⟨h.size, h.r0.on g, h.r1.on g, h.r2.on g, h.r3.on g, h.r4.on g, h.r5.on g, h.r6.on g, h.r7.on g⟩
theorem RepM.parts {w : World} {M : Array Value} {V : Nat → List ValN} (h : RepM w M V) : RepA w M V := by
  obtain ⟨a0, a1, a2, a3, a4, a5, a6, a7, a8, a9, a10, a11, a12, a13, a14, a15, a16, a17, a18, a19, a20, a21, a22, a23, a24, a25, a26, a27, a28, a29, a30, a31, a32, a33, a34, a35, a36, a37, a38, a39, a40, a41, a42, a43, a44, a45, a46, a47, a48, a49, a50, a51, rfl, R0, R1, R2, R3, R4, R5, R6, R7⟩ := h
  exact ⟨rfl, R0, R1, R2, R3, R4, R5, R6, R7⟩
theorem len_cons {α : Type} {l : List α} {n : Nat} (h : l.length = n + 1) : ∃ a r, l = a :: r ∧ r.length = n := by
  cases l with
  | nil => cases h
  | cons a r => exact ⟨a, r, rfl, by simpa using h⟩
theorem arr52 {c : Array Value} (h : c.size = 52) : ∃ (a0 a1 a2 a3 a4 a5 a6 a7 a8 a9 a10 a11 a12 a13 a14 a15 a16 a17 a18 a19 a20 a21 a22 a23 a24 a25 a26 a27 a28 a29 a30 a31 a32 a33 a34 a35 a36 a37 a38 a39 a40 a41 a42 a43 a44 a45 a46 a47 a48 a49 a50 a51 : Value), c = #[a0, a1, a2, a3, a4, a5, a6, a7, a8, a9, a10, a11, a12, a13, a14, a15, a16, a17, a18, a19, a20, a21, a22, a23, a24, a25, a26, a27, a28, a29, a30, a31, a32, a33, a34, a35, a36, a37, a38, a39, a40, a41, a42, a43, a44, a45, a46, a47, a48, a49, a50, a51] := by
  obtain ⟨l⟩ := c
  have h0 : l.length = 52 := h
  obtain ⟨a0, l1, e1, h1⟩ := len_cons h0
  obtain ⟨a1, l2, e2, h2⟩ := len_cons h1
  obtain ⟨a2, l3, e3, h3⟩ := len_cons h2
  obtain ⟨a3, l4, e4, h4⟩ := len_cons h3
  obtain ⟨a4, l5, e5, h5⟩ := len_cons h4
  obtain ⟨a5, l6, e6, h6⟩ := len_cons h5
  obtain ⟨a6, l7, e7, h7⟩ := len_cons h6
  obtain ⟨a7, l8, e8, h8⟩ := len_cons h7
  obtain ⟨a8, l9, e9, h9⟩ := len_cons h8
  obtain ⟨a9, l10, e10, h10⟩ := len_cons h9
  obtain ⟨a10, l11, e11, h11⟩ := len_cons h10
  obtain ⟨a11, l12, e12, h12⟩ := len_cons h11
  obtain ⟨a12, l13, e13, h13⟩ := len_cons h12
  obtain ⟨a13, l14, e14, h14⟩ := len_cons h13
  obtain ⟨a14, l15, e15, h15⟩ := len_cons h14
  obtain ⟨a15, l16, e16, h16⟩ := len_cons h15
  obtain ⟨a16, l17, e17, h17⟩ := len_cons h16
  obtain ⟨a17, l18, e18, h18⟩ := len_cons h17
  obtain ⟨a18, l19, e19, h19⟩ := len_cons h18
  obtain ⟨a19, l20, e20, h20⟩ := len_cons h19
  obtain ⟨a20, l21, e21, h21⟩ := len_cons h20
  obtain ⟨a21, l22, e22, h22⟩ := len_cons h21
  obtain ⟨a22, l23, e23, h23⟩ := len_cons h22
  obtain ⟨a23, l24, e24, h24⟩ := len_cons h23
  obtain ⟨a24, l25, e25, h25⟩ := len_cons h24
  obtain ⟨a25, l26, e26, h26⟩ := len_cons h25
  obtain ⟨a26, l27, e27, h27⟩ := len_cons h26
  obtain ⟨a27, l28, e28, h28⟩ := len_cons h27
  obtain ⟨a28, l29, e29, h29⟩ := len_cons h28
  obtain ⟨a29, l30, e30, h30⟩ := len_cons h29
  obtain ⟨a30, l31, e31, h31⟩ := len_cons h30
  obtain ⟨a31, l32, e32, h32⟩ := len_cons h31
  obtain ⟨a32, l33, e33, h33⟩ := len_cons h32
  obtain ⟨a33, l34, e34, h34⟩ := len_cons h33
  obtain ⟨a34, l35, e35, h35⟩ := len_cons h34
  obtain ⟨a35, l36, e36, h36⟩ := len_cons h35
  obtain ⟨a36, l37, e37, h37⟩ := len_cons h36
  obtain ⟨a37, l38, e38, h38⟩ := len_cons h37
  obtain ⟨a38, l39, e39, h39⟩ := len_cons h38
  obtain ⟨a39, l40, e40, h40⟩ := len_cons h39
  obtain ⟨a40, l41, e41, h41⟩ := len_cons h40
  obtain ⟨a41, l42, e42, h42⟩ := len_cons h41
  obtain ⟨a42, l43, e43, h43⟩ := len_cons h42
  obtain ⟨a43, l44, e44, h44⟩ := len_cons h43
  obtain ⟨a44, l45, e45, h45⟩ := len_cons h44
  obtain ⟨a45, l46, e46, h46⟩ := len_cons h45
  obtain ⟨a46, l47, e47, h47⟩ := len_cons h46
  obtain ⟨a47, l48, e48, h48⟩ := len_cons h47
  obtain ⟨a48, l49, e49, h49⟩ := len_cons h48
  obtain ⟨a49, l50, e50, h50⟩ := len_cons h49
  obtain ⟨a50, l51, e51, h51⟩ := len_cons h50
  obtain ⟨a51, l52, e52, h52⟩ := len_cons h51
  have e53 : l52 = [] := List.eq_nil_of_length_eq_zero h52
  rw [e1, e2, e3, e4, e5, e6, e7, e8, e9, e10, e11, e12, e13, e14, e15, e16, e17, e18, e19, e20, e21, e22, e23, e24, e25, e26, e27, e28, e29, e30, e31, e32, e33, e34, e35, e36, e37, e38, e39, e40, e41, e42, e43, e44, e45, e46, e47, e48, e49, e50, e51, e52, e53]
  exact ⟨a0, a1, a2, a3, a4, a5, a6, a7, a8, a9, a10, a11, a12, a13, a14, a15, a16, a17, a18, a19, a20, a21, a22, a23, a24, a25, a26, a27, a28, a29, a30, a31, a32, a33, a34, a35, a36, a37, a38, a39, a40, a41, a42, a43, a44, a45, a46, a47, a48, a49, a50, a51, rfl⟩
theorem RepA.msg {w : World} {M : Array Value} {V : Nat → List ValN} (h : RepA w M V) : RepM w M V := by
  obtain ⟨hs, R0, R1, R2, R3, R4, R5, R6, R7⟩ := h
  obtain ⟨a0, a1, a2, a3, a4, a5, a6, a7, a8, a9, a10, a11, a12, a13, a14, a15, a16, a17, a18, a19, a20, a21, a22, a23, a24, a25, a26, a27, a28, a29, a30, a31, a32, a33, a34, a35, a36, a37, a38, a39, a40, a41, a42, a43, a44, a45, a46, a47, a48, a49, a50, a51, rfl⟩ := arr52 hs
  exact ⟨a0, a1, a2, a3, a4, a5, a6, a7, a8, a9, a10, a11, a12, a13, a14, a15, a16, a17, a18, a19, a20, a21, a22, a23, a24, a25, a26, a27, a28, a29, a30, a31, a32, a33, a34, a35, a36, a37, a38, a39, a40, a41, a42, a43, a44, a45, a46, a47, a48, a49, a50, a51, rfl, R0, R1, R2, R3, R4, R5, R6, R7⟩
end Go.Proofs.YtilpimilbjcifaaGreatDoor
