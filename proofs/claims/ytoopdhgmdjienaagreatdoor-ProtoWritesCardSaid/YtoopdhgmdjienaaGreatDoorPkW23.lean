/- OMsgA OFew OLarge OMsgIn PRep OReads OPuts -/
import Derived.Test.YtoopdhgmdjienaaGreatDoorPkW22
import Derived.Deep.MidRow
import Derived.Test.YtoopdhgmdjienaaGreatDoorPkW13
import Derived.Test.YtoopdhgmdjienaaGreatDoorPkW06
import Derived.SizedLaws
import Derived.Test.YtoopdhgmdjienaaGreatDoorPkW15
import Derived.Test.YtoopdhgmdjienaaGreatDoorPkW03
import Derived.Test.YtoopdhgmdjienaaGreatDoorPkW16
import Derived.Test.YtoopdhgmdjienaaGreatDoorPkW18
import Derived.Test.YtoopdhgmdjienaaGreatDoorPkW19
import Derived.Test.YtoopdhgmdjienaaGreatDoorPkW20
import Derived.Deep.RegionHeld3
import Derived.Deep.DeepCutAuto
namespace Go.Proofs.YtoopdhgmdjienaaGreatDoor
set_option linter.unusedVariables false
set_option maxRecDepth 20000
open Go.ChangeShapes Go.WideShapes Go.ChangeAt Go.RowKit Go.Joins
open Go.ChangeMaps (open_string shut_string)
theorem extract_get (M : Array Value) (a b j : Nat) (hb : b ≤ M.size) : (M.extract a b)[j]? = if a + j < b then M[a + j]? else none := by
 rw [Array.getElem?_extract, Nat.min_eq_left hb]
 by_cases h : a + j < b
 · rw [if_pos (by omega), if_pos h]
 · rw [if_neg (by omega), if_neg h]
theorem range_part {w : World} {g : Nat} {C : Array Value} {t : TypeId} (hg : w.heap[g]? = some (.cells C t (0, 0))) (o n : Nat) (hn : o + n ≤ C.size) : w.rangeAt g o (C.extract o (o + n)).toList := by
 intro j v hv
 rw [Array.getElem?_toList] at hv
 rw [extract_get C o (o + n) j hn] at hv
 split at hv
 · exact blk_cell hg (o + j) hv
 · cases hv
theorem run_load_part {P : Program} {w : World} {g : Nat} {C : Array Value} {t : TypeId} (hg : w.heap[g]? = some (.cells C t (0, 0))) (ty : TypeId) (o n e : Nat) (he : o + n = e) (d : TypeDesc) (hn : e ≤ C.size)
 (hu : P.underlying ty = some d) (hd : d.isRow = true) (hi : (P.info? ty).map (·.size) = some n) : (Instr.loadAt ty (.pointer (some ⟨g, o, none⟩))).run P w = .ok (.agg (C.extract o e)) w := by
 subst he
 have h := run_loadAt_mid (P := P) w g o ty (C.extract o (o + n)).toList d (range_part hg o n hn) hu hd (by rw [hi, Array.length_toList, Array.size_extract]; congr 1; omega)
 rw [Array.toArray_toList] at h
 exact h
theorem wpList_load_part {P : Program} {ops : Array Oper} {rest : List Oper} {op : Oper} {a : Act} {w : World} {Q : Exit → Act → World → Prop} (hgd : op.guard = none) (ty : TypeId) (x : Operand) (hop : op.op = .load ty x)
 (g o n e : Nat) (he : o + n = e) (hx : a.eval x = .pointer (some ⟨g, o, none⟩)) {t : TypeId} {C : Array Value} (d : TypeDesc) (hg : w.heap[g]? = some (.cells C t (0, 0))) (hn : e ≤ C.size)
 (hu : P.underlying ty = some d) (hd : d.isRow = true) (hi : (P.info? ty).map (·.size) = some n)
 (h : wpList P ops Q rest (a.put op.dst (.agg (C.extract o e))) w) : wpList P ops Q (op :: rest) a w := by
 subst he
 refine wpList_load_mid hgd ty x hop g o hx (C.extract o (o + n)).toList d (range_part hg o n hn) hu hd (by rw [hi, Array.length_toList, Array.size_extract]; congr 1; omega) ?_
 rw [Array.toArray_toList]
 exact h
def setPart (M : Array Value) (o : Nat) (c : Array Value) : Array Value := (M.toList.take o ++ c.toList ++ M.toList.drop (o + c.size)).toArray
theorem setPart_size {M : Array Value} {o : Nat} {c : Array Value} (h : o + c.size ≤ M.size) : (setPart M o c).size = M.size := by
 simp [setPart]; omega
theorem setPart_get {M : Array Value} {o : Nat} {c : Array Value} (h : o + c.size ≤ M.size) (j : Nat) : (setPart M o c)[j]? = if o ≤ j ∧ j < o + c.size then c[j - o]? else M[j]? := by
 have hl : (M.toList.take o).length = o := by simp; omega
 unfold setPart
 rw [List.getElem?_toArray]
 by_cases h1 : j < o
 · rw [if_neg (by omega), List.append_assoc, List.getElem?_append_left (by omega), List.getElem?_take_of_lt h1, Array.getElem?_toList]
 · by_cases h2 : j < o + c.size
   · rw [if_pos ⟨by omega, h2⟩, List.append_assoc, List.getElem?_append_right (by omega), hl, List.getElem?_append_left (by simp; omega), Array.getElem?_toList]
   · rw [if_neg (by omega), List.getElem?_append_right (by simp; omega), List.getElem?_drop]
     simp only [List.length_append, hl, Array.length_toList, Array.getElem?_toList]
     congr 1; omega
theorem extract_same {M N : Array Value} {a b : Nat} (hs : M.size = N.size) (hb : b ≤ M.size) (h : ∀ j, a ≤ j → j < b → M[j]? = N[j]?) : M.extract a b = N.extract a b := by
 apply Array.ext_getElem?
 intro i
 rw [extract_get M a b i hb, extract_get N a b i (by omega)]
 by_cases c : a + i < b
 · rw [if_pos c, if_pos c, h _ (by omega) c]
 · rw [if_neg c, if_neg c]
theorem setPart_self {M : Array Value} {o b : Nat} {c : Array Value} (hb : b = o + c.size) (h : o + c.size ≤ M.size) : (setPart M o c).extract o b = c := by
 subst hb
 apply Array.ext_getElem?
 intro i
 rw [extract_get _ _ _ _ (by rw [setPart_size h]; exact h)]
 by_cases k : o + i < o + c.size
 · rw [if_pos k, setPart_get h, if_pos ⟨by omega, k⟩, Nat.add_sub_cancel_left]
 · rw [if_neg k, Array.getElem?_eq_none (by omega)]
theorem setPart_apart {M : Array Value} {o a b : Nat} {c : Array Value} (h : o + c.size ≤ M.size) (hb : b ≤ M.size) (hab : b ≤ o ∨ o + c.size ≤ a) : (setPart M o c).extract a b = M.extract a b :=
 extract_same (setPart_size h) (by rw [setPart_size h]; exact hb) fun j h1 h2 => by rw [setPart_get h, if_neg (by omega)]
theorem run_fieldAt {P : Program} {t : TypeId} {fs : Array Field} {i : Nat} {f : Field} (hu : P.underlying t = some (.struct fs)) (hf : fs[i]? = some f) {n : Nat} (hs : (P.info? f.type).map (·.size) = some (n + 1)) (w : World) (g o : Nat) :
 (Instr.fieldAt t (.pointer (some ⟨g, o, none⟩)) i).run P w = .ok (.pointer (some ⟨g, o + f.offset, none⟩)) w := by
 cases hi : P.info? f.type with
 | none => simp [hi] at hs
 | some j =>
   have hj : j.size = n + 1 := by simpa [hi] using hs
   simp [Instr.fieldAt, run_underlying hu, hf, Instr.sureAddr, fieldPlace, sizeOf, typeInfo, hi, hj, Addr.add]
theorem wp_field {P : Program} {op : Oper} {a : Act} {w : World} {K : Act → World → Prop} {Q : Exit → Act → World → Prop} (t : TypeId) (x : Operand) (i : Nat) (hop : op.op = .fieldAddr t x i)
 (g o e : Nat) (hx : a.eval x = .pointer (some ⟨g, o, none⟩)) (hrun : ∀ w : World, (Instr.fieldAt t (.pointer (some ⟨g, o, none⟩)) i).run P w = .ok (.pointer (some ⟨g, e, none⟩)) w)
 (h : K (a.put op.dst (.pointer (some ⟨g, e, none⟩))) w) : op.wp P a w K Q := by
 unfold Oper.wp execOp
 simp only [hop, hx, Sem.run_bind, hrun, Result.andThen_ok, Sem.run_pure]
 exact h
theorem wpList_field {P : Program} {ops : Array Oper} {rest : List Oper} {op : Oper} {a : Act} {w : World} {Q : Exit → Act → World → Prop} (hgd : op.guard = none) (t : TypeId) (x : Operand) (i : Nat) (hop : op.op = .fieldAddr t x i)
 (g o e : Nat) (hx : a.eval x = .pointer (some ⟨g, o, none⟩)) (hrun : ∀ w : World, (Instr.fieldAt t (.pointer (some ⟨g, o, none⟩)) i).run P w = .ok (.pointer (some ⟨g, e, none⟩)) w)
 (h : wpList P ops Q rest (a.put op.dst (.pointer (some ⟨g, e, none⟩))) w) : wpList P ops Q (op :: rest) a w :=
 wpList_plain hgd fun _ hK => wp_field t x i hop g o e hx hrun (hK _ _ h)
theorem fieldM0 (g : Nat) (w : World) : (Instr.fieldAt 51 (.pointer (some ⟨g, 0, none⟩)) 0).run Tryz.prog w = .ok (.pointer (some ⟨g, 0, none⟩)) w := by
 have h := run_fieldAt (P := Tryz.prog) (i := 0) (n := 0) Tryz.underlying51 rfl (by kernel_rfl) w g 0
 simpa using h
theorem fieldM1 (g : Nat) (w : World) : (Instr.fieldAt 51 (.pointer (some ⟨g, 0, none⟩)) 1).run Tryz.prog w = .ok (.pointer (some ⟨g, 1, none⟩)) w := by
 have h := run_fieldAt (P := Tryz.prog) (i := 1) (n := 0) Tryz.underlying51 rfl (by kernel_rfl) w g 0
 simpa using h
theorem fieldM2 (g : Nat) (w : World) : (Instr.fieldAt 51 (.pointer (some ⟨g, 0, none⟩)) 2).run Tryz.prog w = .ok (.pointer (some ⟨g, 2, none⟩)) w := by
 have h := run_fieldAt (P := Tryz.prog) (i := 2) (n := 0) Tryz.underlying51 rfl (by kernel_rfl) w g 0
 simpa using h
theorem fieldM3 (g : Nat) (w : World) : (Instr.fieldAt 51 (.pointer (some ⟨g, 0, none⟩)) 3).run Tryz.prog w = .ok (.pointer (some ⟨g, 3, none⟩)) w := by
 have h := run_fieldAt (P := Tryz.prog) (i := 3) (n := 0) Tryz.underlying51 rfl (by kernel_rfl) w g 0
 simpa using h
theorem fieldM4 (g : Nat) (w : World) : (Instr.fieldAt 51 (.pointer (some ⟨g, 0, none⟩)) 4).run Tryz.prog w = .ok (.pointer (some ⟨g, 4, none⟩)) w := by
 have h := run_fieldAt (P := Tryz.prog) (i := 4) (n := 0) Tryz.underlying51 rfl (by kernel_rfl) w g 0
 simpa using h
theorem fieldM5 (g : Nat) (w : World) : (Instr.fieldAt 51 (.pointer (some ⟨g, 0, none⟩)) 5).run Tryz.prog w = .ok (.pointer (some ⟨g, 5, none⟩)) w := by
 have h := run_fieldAt (P := Tryz.prog) (i := 5) (n := 0) Tryz.underlying51 rfl (by kernel_rfl) w g 0
 simpa using h
theorem fieldM6 (g : Nat) (w : World) : (Instr.fieldAt 51 (.pointer (some ⟨g, 0, none⟩)) 6).run Tryz.prog w = .ok (.pointer (some ⟨g, 6, none⟩)) w := by
 have h := run_fieldAt (P := Tryz.prog) (i := 6) (n := 0) Tryz.underlying51 rfl (by kernel_rfl) w g 0
 simpa using h
theorem fieldM7 (g : Nat) (w : World) : (Instr.fieldAt 51 (.pointer (some ⟨g, 0, none⟩)) 7).run Tryz.prog w = .ok (.pointer (some ⟨g, 7, none⟩)) w := by
 have h := run_fieldAt (P := Tryz.prog) (i := 7) (n := 0) Tryz.underlying51 rfl (by kernel_rfl) w g 0
 simpa using h
theorem fieldM8 (g : Nat) (w : World) : (Instr.fieldAt 51 (.pointer (some ⟨g, 0, none⟩)) 8).run Tryz.prog w = .ok (.pointer (some ⟨g, 8, none⟩)) w := by
 have h := run_fieldAt (P := Tryz.prog) (i := 8) (n := 0) Tryz.underlying51 rfl (by kernel_rfl) w g 0
 simpa using h
theorem fieldM9 (g : Nat) (w : World) : (Instr.fieldAt 51 (.pointer (some ⟨g, 0, none⟩)) 9).run Tryz.prog w = .ok (.pointer (some ⟨g, 9, none⟩)) w := by
 have h := run_fieldAt (P := Tryz.prog) (i := 9) (n := 0) Tryz.underlying51 rfl (by kernel_rfl) w g 0
 simpa using h
theorem fieldM10 (g : Nat) (w : World) : (Instr.fieldAt 51 (.pointer (some ⟨g, 0, none⟩)) 10).run Tryz.prog w = .ok (.pointer (some ⟨g, 10, none⟩)) w := by
 have h := run_fieldAt (P := Tryz.prog) (i := 10) (n := 0) Tryz.underlying51 rfl (by kernel_rfl) w g 0
 simpa using h
theorem fieldM11 (g : Nat) (w : World) : (Instr.fieldAt 51 (.pointer (some ⟨g, 0, none⟩)) 11).run Tryz.prog w = .ok (.pointer (some ⟨g, 11, none⟩)) w := by
 have h := run_fieldAt (P := Tryz.prog) (i := 11) (n := 8) Tryz.underlying51 rfl (by kernel_rfl) w g 0
 simpa using h
theorem fieldM12 (g : Nat) (w : World) : (Instr.fieldAt 51 (.pointer (some ⟨g, 0, none⟩)) 12).run Tryz.prog w = .ok (.pointer (some ⟨g, 20, none⟩)) w := by
 have h := run_fieldAt (P := Tryz.prog) (i := 12) (n := 4) Tryz.underlying51 rfl (by kernel_rfl) w g 0
 simpa using h
theorem fieldM13 (g : Nat) (w : World) : (Instr.fieldAt 51 (.pointer (some ⟨g, 0, none⟩)) 13).run Tryz.prog w = .ok (.pointer (some ⟨g, 25, none⟩)) w := by
 have h := run_fieldAt (P := Tryz.prog) (i := 13) (n := 4) Tryz.underlying51 rfl (by kernel_rfl) w g 0
 simpa using h
theorem fieldM14 (g : Nat) (w : World) : (Instr.fieldAt 51 (.pointer (some ⟨g, 0, none⟩)) 14).run Tryz.prog w = .ok (.pointer (some ⟨g, 30, none⟩)) w := by
 have h := run_fieldAt (P := Tryz.prog) (i := 14) (n := 10) Tryz.underlying51 rfl (by kernel_rfl) w g 0
 simpa using h
theorem fieldM15 (g : Nat) (w : World) : (Instr.fieldAt 51 (.pointer (some ⟨g, 0, none⟩)) 15).run Tryz.prog w = .ok (.pointer (some ⟨g, 41, none⟩)) w := by
 have h := run_fieldAt (P := Tryz.prog) (i := 15) (n := 1) Tryz.underlying51 rfl (by kernel_rfl) w g 0
 simpa using h
theorem fieldM16 (g : Nat) (w : World) : (Instr.fieldAt 51 (.pointer (some ⟨g, 0, none⟩)) 16).run Tryz.prog w = .ok (.pointer (some ⟨g, 43, none⟩)) w := by
 have h := run_fieldAt (P := Tryz.prog) (i := 16) (n := 3) Tryz.underlying51 rfl (by kernel_rfl) w g 0
 simpa using h
theorem fieldM17 (g : Nat) (w : World) : (Instr.fieldAt 51 (.pointer (some ⟨g, 0, none⟩)) 17).run Tryz.prog w = .ok (.pointer (some ⟨g, 47, none⟩)) w := by
 have h := run_fieldAt (P := Tryz.prog) (i := 17) (n := 2) Tryz.underlying51 rfl (by kernel_rfl) w g 0
 simpa using h
theorem fieldM18 (g : Nat) (w : World) : (Instr.fieldAt 51 (.pointer (some ⟨g, 0, none⟩)) 18).run Tryz.prog w = .ok (.pointer (some ⟨g, 50, none⟩)) w := by
 have h := run_fieldAt (P := Tryz.prog) (i := 18) (n := 1) Tryz.underlying51 rfl (by kernel_rfl) w g 0
 simpa using h
theorem wpList_of_quiet {P : Program} {ops : Array Oper} {C : World → Prop} {Q : Act → Prop} {Q' : Exit → Act → World → Prop} (hQ : ∀ a w, C w → Q a → Q' .normal a w) : ∀ (l : List Oper) (a : Act) (w : World), C w → wpQuiet P ops C Q l a → wpList P ops Q' l a w
 | [], a, w, hw, h => hQ a w hw h
 | o :: rest, a, w, hw, h => by
   unfold wpQuiet at h
   unfold wpList
   split
   · rename_i c
     rw [if_pos c] at h
     exact .inl (Oper.wp_of_quiet hw (fun a' w' hw' k => wpList_of_quiet hQ rest a' w' hw' k) h)
   · rename_i c
     rw [if_neg c] at h
     exact wpList_of_quiet hQ rest _ _ hw h
theorem wp_region_plain {P : Program} {V : World} {id : Nat} {Q : Exit → Act → World → Prop} {a : Act} {w : World} {l : List Oper} (g : Wider V w)
 (h : wpQuiet P l.toArray (fun w' => ∃ x : After V, w' = x.w) (fun a' => ∀ w', (∃ x : After V, w' = x.w) → Q .normal a' w') l a) : (Code.region id l.toArray false).wp P Q a w :=
 wp_region_lit (wpList_of_quiet (C := fun w' => ∃ x : After V, w' = x.w) (fun a' w' hw' k => k w' hw') l a w ⟨⟨w, g⟩, rfl⟩ h)
theorem quiet_field {P : Program} {op : Oper} {a : Act} {Cl : World → Prop} {K : Act → Prop} (t : TypeId) (x : Operand) (i : Nat) (hop : op.op = .fieldAddr t x i)
 (g o e : Nat) (hx : a.eval x = .pointer (some ⟨g, o, none⟩)) (hrun : ∀ w : World, (Instr.fieldAt t (.pointer (some ⟨g, o, none⟩)) i).run P w = .ok (.pointer (some ⟨g, e, none⟩)) w)
 (h : K (a.put op.dst (.pointer (some ⟨g, e, none⟩)))) : op.quiet P a Cl K :=
 ⟨_, fun w _ => by unfold Oper.quietAt execOp; simp only [hop, hx, Sem.run_bind, hrun, Result.andThen_ok, Sem.run_pure]; exact ⟨rfl, rfl⟩, h⟩
theorem quiet_load {P : Program} {op : Oper} {a : Act} {Cl : World → Prop} {K : Act → Prop} (ty : TypeId) (x : Operand) (hop : op.op = .load ty x)
 (g o n e : Nat) (he : o + n = e) (hx : a.eval x = .pointer (some ⟨g, o, none⟩)) {t : TypeId} {C : Array Value} (d : TypeDesc) (hg : ∀ w, Cl w → w.heap[g]? = some (.cells C t (0, 0))) (hn : e ≤ C.size)
 (hu : P.underlying ty = some d) (hd : d.isRow = true) (hi : (P.info? ty).map (·.size) = some n)
 (h : K (a.put op.dst (.agg (C.extract o e)))) : op.quiet P a Cl K :=
 ⟨_, fun w hw => by unfold Oper.quietAt execOp; simp only [hop, hx, Sem.run_bind, run_load_part (hg w hw) ty o n e he d hn hu hd hi, Result.andThen_ok, Sem.run_pure]; exact ⟨rfl, rfl⟩, h⟩
theorem quiet_row {P : Program} {op : Oper} {a : Act} {Cl : World → Prop} {K : Act → Prop} (ty : TypeId) (x : Operand) (hop : op.op = .load ty x)
 (g : Nat) (hx : a.eval x = .pointer (some ⟨g, 0, none⟩)) {t : TypeId} {C : Array Value} (d : TypeDesc) (hg : ∀ w, Cl w → w.heap[g]? = some (.cells C t (0, 0)))
 (hu : P.underlying ty = some d) (hd : d.isRow = true) (hi : (P.info? ty).map (·.size) = some C.size)
 (h : K (a.put op.dst (.agg C))) : op.quiet P a Cl K :=
 ⟨_, fun w hw => by
  have q := run_load_part (hg w hw) ty 0 C.size C.size (Nat.zero_add _) d (Nat.le_refl _) hu hd hi
  rw [show C.extract 0 C.size = C by simp] at q
  unfold Oper.quietAt execOp; simp only [hop, hx, Sem.run_bind, q, Result.andThen_ok, Sem.run_pure]; exact ⟨rfl, rfl⟩, h⟩
theorem quiet_build {P : Program} {op : Oper} {a : Act} {Cl : World → Prop} {K : Act → Prop} (t : TypeId) (parts : Array (Nat × Operand)) (hop : op.op = .build t parts)
 {ps : Array (Nat × Value)} (hps : (parts.map fun (i, x) => (i, a.eval x)) = ps) {cells : Array Value} (hrun : ∀ w, (Instr.build t ps).run P w = .ok (.agg cells) w)
 (h : K (a.put op.dst (.agg cells))) : op.quiet P a Cl K :=
 ⟨_, fun w hw => by
  subst hps
  unfold Oper.quietAt execOp; simp only [hop, Sem.run_bind, hrun, Result.andThen_ok, Sem.run_pure]; exact ⟨rfl, rfl⟩, h⟩
theorem after_blk {V : World} {g : Nat} {C : Array Value} {t : TypeId} (h : V.heap[g]? = some (.cells C t (0, 0))) : ∀ w, (∃ x : After V, w = x.w) → w.heap[g]? = some (.cells C t (0, 0)) := by
 rintro w ⟨x, rfl⟩
 exact wide_blk h x.h
theorem wpList_run_val {P : Program} {ops : Array Oper} {rest : List Oper} {op : Oper} {a : Act} {w : World} {Q : Exit → Act → World → Prop} (hgd : op.guard = none) (t : TypeId) (parts : Array (Nat × Operand)) (hop : op.op = .build t parts)
 {ps : Array (Nat × Value)} (hps : (parts.map fun (i, x) => (i, a.eval x)) = ps) {cells : Array Value} (hrun : (Instr.build t ps).run P w = .ok (.agg cells) w)
 (h : wpList P ops Q rest (a.put op.dst (.agg cells)) w) : wpList P ops Q (op :: rest) a w := by
 subst hps
 refine wpList_plain hgd fun _ hK => ?_
 have hh := hK _ _ h
 unfold Oper.wp execOp
 simp only [hop, Sem.run_bind, hrun, Result.andThen_ok, Sem.run_pure]
 exact hh
structure RepA (w : World) (M : Array Value) (V : Nat → List ValN) : Prop where
 size : M.size = 52
 r0 : RepNode w (M.extract 11 20) (V 0)
 r1 : RepField w (M.extract 20 25) (V 1)
 r2 : RepTable w (M.extract 25 30) (V 2)
 r3 : RepEntry w (M.extract 30 41) (V 3)
 r4 : RepBlock w (M.extract 41 43) (V 4)
 r5 : RepGroup w (M.extract 43 47) (V 5)
 r6 : RepMeter w (M.extract 47 50) (V 6)
 r7 : RepRegs w (M.extract 50 52) (V 7)
theorem RepA.on {W w : World} {M : Array Value} {V : Nat → List ValN} (h : RepA W M V) (g : Wider W w) : RepA w M V :=
 ⟨h.size, h.r0.on g, h.r1.on g, h.r2.on g, h.r3.on g, h.r4.on g, h.r5.on g, h.r6.on g, h.r7.on g⟩
end Go.Proofs.YtoopdhgmdjienaaGreatDoor
namespace Go.Proofs.YtoopdhgmdjienaaGreatDoor
set_option linter.unusedVariables false
set_option maxRecDepth 20000
open Go.ChangeShapes Go.WideShapes Go.ChangeAt Go.RowKit Go.Deep
mutual
def Sh.few (N : Nat) : Sh → List Value → Prop
 | .row _, cs => ∀ A len cap, cs = [.slice A len cap] → len ≤ N
 | .tup fs, cs => Sh.fews N fs cs
 | .int _, _ => True
 | .bool, _ => True
 | .str, _ => True
def Sh.fews (N : Nat) : List Sh → List Value → Prop
 | [], _ => True
 | s :: r, cs => s.few N (cs.take s.size) ∧ Sh.fews N r (cs.drop s.size)
end
mutual
def Sh.heavy (P : Program) : Sh → TypeId → Bool
 | .row _, t => match P.underlying t with
   | some (.slice e) => decide (0 < P.bytesOf e)
   | _ => false
 | .tup fs, t => match P.underlying t with
   | some (.struct F) => Sh.heavies P fs F.toList
   | _ => false
 | .int _, _ => true
 | .bool, _ => true
 | .str, _ => true
def Sh.heavies (P : Program) : List Sh → List Field → Bool
 | [], _ => true
 | s :: r, f :: q => s.heavy P f.type && Sh.heavies P r q
 | _, _ => false
end
section
variable {H : Type} {enc : TypeId × Value → H} {P : Program} {w : World} {base N : Nat}
mutual
theorem Sh.open_few : ∀ (s : Sh) (t : TypeId) (fuel : Nat) (cs : List Value) (x : DataW H × List MemPlace), s.fits P t = true → s.heavy P t = true → DataW.trod enc P w base (fun _ => true) true fuel t cs = some x →
 (∀ n ∈ x.1.weights P t, n ≤ N) → s.few N cs
 | .int k, t, fuel, cs, x, hf, hh, h, hN => by unfold Sh.few; trivial
 | .bool, t, fuel, cs, x, hf, hh, h, hN => by unfold Sh.few; trivial
 | .str, t, fuel, cs, x, hf, hh, h, hN => by unfold Sh.few; trivial
 | .row s, t, fuel, cs, x, hf, hh, h, hN => by
   unfold Sh.heavy at hh
   split at hh
   · rename_i e hu
     have hpos : 0 < P.bytesOf e := of_decide_eq_true hh
     unfold Sh.few
     rcases open_slice hu h with ⟨rfl, _⟩ | ⟨a, len, cap, m, n, D, Pl, rfl, hb, hl, hm, hmm, rfl, hi⟩
     · intro A len cap e
       injection e with e1 _
       injection e1 with _ e2 _
       omega
     · intro A len2 cap2 e2
       injection e2 with e1 _
       injection e1 with _ e3 _
       subst e3
       have q := hN ((len + (m - len)) * P.bytesOf e) (by simp [DataW.weights, hu])
       have q2 : (len + (m - len)) * 1 ≤ (len + (m - len)) * P.bytesOf e := Nat.mul_le_mul_left _ hpos
       omega
   · cases hh
 | .tup fs, t, fuel, cs, x, hf, hh, h, hN => by
   unfold Sh.fits at hf
   split at hf
   · rename_i F hu
     simp only [Bool.and_eq_true, beq_iff_eq] at hf
     obtain ⟨hc, hs⟩ := hf
     unfold Sh.heavy at hh
     rw [hu] at hh
     have hh : Sh.heavies P fs F.toList = true := hh
     obtain ⟨xs, n, _, rfl, hlen, hxl, hg⟩ := DataW.trod_struct hu h
     have k := Sh.opens_few fs 0 F.toList cs hs hh (fun f hf => by
      obtain ⟨i, hi, rfl⟩ := List.getElem_of_mem hf
      have g := hg i F.toList[i] (by rw [← Array.getElem?_toList]; exact List.getElem?_eq_getElem hi)
      have hi2 : i < xs.length := by rw [hxl]; simpa using hi
      refine ⟨n, xs[i], by rw [g]; exact List.getElem?_eq_getElem hi2, fun k hk => hN k ?_⟩
      simp only [DataW.weights, hu]
      exact DataW.weights_mem_each (j := i) (t := F.toList[i].type) (d := xs[i].1) (by rw [List.getElem?_map, List.getElem?_eq_getElem hi]; rfl) (by rw [List.getElem?_map, List.getElem?_eq_getElem hi2]; rfl) k hk)
     unfold Sh.few
     rw [List.drop_zero] at k
     exact k
   · cases hf
theorem Sh.opens_few : ∀ (fs : List Sh) (off : Nat) (F : List Field) (cs : List Value), Sh.fitsAll P fs off F = true → Sh.heavies P fs F = true →
 (∀ f ∈ F, ∃ n y, DataW.trod enc P w base (fun _ => true) true n f.type ((cs.drop f.offset).take (P.cellsOf f.type)) = some y ∧ ∀ k ∈ y.1.weights P f.type, k ≤ N) → Sh.fews N fs (cs.drop off)
 | [], off, F, cs, hf, hh, h => by unfold Sh.fews; trivial
 | s :: r, off, F, cs, hf, hh, h => by
   match F, hf, hh with
   | f :: q, hf, hh =>
     unfold Sh.fitsAll at hf
     simp only [Bool.and_eq_true, beq_iff_eq] at hf
     obtain ⟨⟨⟨h1, h2⟩, h3⟩, h4⟩ := hf
     unfold Sh.heavies at hh
     simp only [Bool.and_eq_true] at hh
     obtain ⟨n, y, hy, hk⟩ := h f (.head _)
     rw [h1, h2] at hy
     have k1 := Sh.open_few s f.type n _ y h3 hh.1 hy hk
     have k2 := Sh.opens_few r (off + s.size) q cs h4 hh.2 (fun g hg => h g (.tail _ hg))
     unfold Sh.fews
     exact ⟨k1, by rw [List.drop_drop]; exact k2⟩
   | [], hf, hh => unfold Sh.fitsAll at hf; cases hf
end
end
structure MsgN.Few (x : MsgN) : Prop where
 words : x.f10.n ≤ reachBytes
 arms : x.f11.f7.n ≤ reachBytes
 keys : x.f13.f2.n ≤ reachBytes
 args : x.f14.f6.n ≤ reachBytes
 code : x.f15.f1.n ≤ reachBytes
 buckets : x.f16.f3.n ≤ reachBytes
theorem heavyMsg : Sh.heavy Tryz.prog (.tup shMsg) 51 = true := by kernel_rfl
theorem msg_few {x : MsgN} (h : Sh.few reachBytes (.tup shMsg) x.cells) : x.Few := by
 obtain ⟨x0, x1, x2, x3, x4, x5, x6, x7, x8, x9, ⟨A, n, c, l⟩, ⟨y0, y1, y2, y3, y4, y5, y6, ⟨A1, n1, c1, l1⟩, y8⟩, ⟨z0, z1, z2, z3, z4⟩, ⟨t0, t1, ⟨A2, n2, c2, l2⟩, t3, t4⟩, ⟨e0, e1, e2, e3, e4, e5, ⟨A3, n3, c3, l3⟩, e7, e8, e9, e10⟩, ⟨b0, ⟨A4, n4, c4, l4⟩⟩, ⟨g0, g1, g2, ⟨A5, n5, c5, l5⟩⟩, ⟨m0, m1, m2⟩, ⟨r0, r1⟩⟩ := x
 obtain ⟨_, _, _, _, _, _, _, _, _, _, h10, h11, _, h13, h14, h15, h16, _⟩ := h
 exact ⟨h10 _ _ _ rfl, h11.2.2.2.2.2.2.2.1 _ _ _ rfl, h13.2.2.1 _ _ _ rfl, h14.2.2.2.2.2.2.1 _ _ _ rfl, h15.2.1 _ _ _ rfl, h16.2.2.2.1 _ _ _ rfl⟩
theorem open_msg_few {H : Type} {enc : TypeId × Value → H} {w : World} {base : Nat} {r : Reach} {b0 : Nat} {v : Value} {d : DataW H} {p : List MemPlace} (hv : Value.okWide Tryz.prog w r b0 51 v)
 (h : DataW.Trod enc Tryz.prog w base (fun _ => true) true 51 v d p) {ts : List TypeId} {ds : List (DataW H)} (hz : (DataW.weightsEach Tryz.prog ts ds).all (· ≤ reachBytes) = true) (j : Nat) (ht : ts[j]? = some 51) (hd : ds[j]? = some d) :
 ∃ x : MsgN, x.Ok w ∧ v = .agg x.cells.toArray ∧ x.Few := by
 obtain ⟨x, o, rfl⟩ := open_msg hv h
 refine ⟨x, o, rfl, msg_few ?_⟩
 obtain ⟨fuel, hf⟩ := h
 exact Sh.open_few (.tup shMsg) _ fuel _ _ fitsMsg heavyMsg hf fun n hn => by
  have q := List.all_eq_true.1 hz n (DataW.weights_mem_each ht hd n hn)
  simpa using q
end Go.Proofs.YtoopdhgmdjienaaGreatDoor
namespace Go.Proofs.YtoopdhgmdjienaaGreatDoor
set_option linter.unusedVariables false
set_option maxRecDepth 20000
open Go.ChangeShapes Go.WideShapes Go.ChangeAt Go.RowKit Go.Joins
open Go.ChangeMaps (open_string shut_string)
theorem wf_cons {k : IntKind} {ks : List IntKind} {n : Int} {y : List Int} (h : (Lit.int k n).wf = true) (g : wfK ks y) : wfK (k :: ks) (n :: y) :=
 ⟨by simp [g.1], fun i k2 n2 h1 h2 => by
  match i, h1, h2 with
  | 0, h1, h2 => simp at h1 h2; subst h1 h2; exact h
  | i + 1, h1, h2 => exact g.2 i k2 n2 (by simpa using h1) (by simpa using h2)⟩
theorem wf_nil : wfK [] [] := ⟨rfl, fun i k n h _ => by simp at h⟩
theorem rowArm_in {l : List (List Value)} (h : ∀ y ∈ l, isArm y) : ∃ L : List (List Int), l = rowsK ksArm L ∧ ∀ x ∈ L, wfK ksArm x := by
 refine map_of (f := fun x => List.zipWith Value.int ksArm x) l fun y hy => ?_
 obtain ⟨v0, v1, rfl, w0, w1⟩ := h y hy
 exact ⟨[v0, v1], rfl, wf_cons w0 (wf_cons w1 wf_nil)⟩
theorem rowKey_in {l : List (List Value)} (h : ∀ y ∈ l, isKey y) : ∃ L : List (List Int), l = rowsK ksKey L ∧ ∀ x ∈ L, wfK ksKey x := by
 refine map_of (f := fun x => List.zipWith Value.int ksKey x) l fun y hy => ?_
 obtain ⟨v0, rfl, w0⟩ := h y hy
 exact ⟨[v0], rfl, wf_cons w0 wf_nil⟩
theorem rowArg_in {l : List (List Value)} (h : ∀ y ∈ l, isArg y) : ∃ L : List (List Int), l = rowsK ksArg L ∧ ∀ x ∈ L, wfK ksArg x := by
 refine map_of (f := fun x => List.zipWith Value.int ksArg x) l fun y hy => ?_
 obtain ⟨v0, rfl, w0⟩ := h y hy
 exact ⟨[v0], rfl, wf_cons w0 wf_nil⟩
theorem rowInstr_in {l : List (List Value)} (h : ∀ y ∈ l, isInstr y) : ∃ L : List (List Int), l = rowsK ksInstr L ∧ ∀ x ∈ L, wfK ksInstr x := by
 refine map_of (f := fun x => List.zipWith Value.int ksInstr x) l fun y hy => ?_
 obtain ⟨v0, v1, v2, v3, v4, v5, v6, rfl, w0, w1, w2, w3, w4, w5, w6⟩ := h y hy
 exact ⟨[v0, v1, v2, v3, v4, v5, v6], rfl, wf_cons w0 (wf_cons w1 (wf_cons w2 (wf_cons w3 (wf_cons w4 (wf_cons w5 (wf_cons w6 wf_nil))))))⟩
theorem rowBucket_in {l : List (List Value)} (h : ∀ y ∈ l, isBucket y) : ∃ L : List (List Int), l = rowsK ksBucket L ∧ ∀ x ∈ L, wfK ksBucket x := by
 refine map_of (f := fun x => List.zipWith Value.int ksBucket x) l fun y hy => ?_
 obtain ⟨v0, v1, rfl, w0, w1⟩ := h y hy
 exact ⟨[v0, v1], rfl, wf_cons w0 (wf_cons w1 wf_nil)⟩
theorem NodeN.rep {w : World} {x : NodeN} (o : x.Ok w) (h : x.f7.n < 1000000) : ∃ vs, RepNode w x.cells.toArray vs := by
 obtain ⟨L, hl, hL⟩ := rowArm_in o.o7.elt
 have hn : L.length = x.f7.n := by have q := o.o7.len; rw [hl] at q; simpa [rowsK] using q
 exact ⟨_, x.f0, x.f1, x.f2, x.f3, x.f4, x.f5, x.f6, x.f8, x.f7.A, x.f7.n, x.f7.cap, L, rfl, rfl, o.o0, o.o1, o.o2, o.o3, o.o4, o.o5, o.o6, o.o8, by rw [← hl]; exact o.o7.at_, hn, h, hL⟩
theorem FieldN.rep {w : World} {x : FieldN} (o : x.Ok w) : ∃ vs, RepField w x.cells.toArray vs := by
 exact ⟨_, x.f0, x.f1, x.f2, x.f3, x.f4, rfl, rfl, o.o0, o.o1, o.o2, o.o3, o.o4⟩
theorem TableN.rep {w : World} {x : TableN} (o : x.Ok w) (h : x.f2.n < 1000000) : ∃ vs, RepTable w x.cells.toArray vs := by
 obtain ⟨L, hl, hL⟩ := rowKey_in o.o2.elt
 have hn : L.length = x.f2.n := by have q := o.o2.len; rw [hl] at q; simpa [rowsK] using q
 exact ⟨_, x.f0, x.f1, x.f3, x.f4, x.f2.A, x.f2.n, x.f2.cap, L, rfl, rfl, o.o0, o.o1, o.o3, o.o4, by rw [← hl]; exact o.o2.at_, hn, h, hL⟩
theorem EntryN.rep {w : World} {x : EntryN} (o : x.Ok w) (h : x.f6.n < 1000000) : ∃ vs, RepEntry w x.cells.toArray vs := by
 obtain ⟨L, hl, hL⟩ := rowArg_in o.o6.elt
 have hn : L.length = x.f6.n := by have q := o.o6.len; rw [hl] at q; simpa [rowsK] using q
 exact ⟨_, x.f0, x.f3, x.f4, x.f5, x.f7, x.f8, x.f9, x.f1, x.f2, x.f10, x.f6.A, x.f6.n, x.f6.cap, L, rfl, rfl, o.o0, o.o1, o.o2, o.o3, o.o4, o.o5, o.o7, o.o8, o.o9, by rw [← hl]; exact o.o6.at_, hn, h, hL⟩
theorem BlockN.rep {w : World} {x : BlockN} (o : x.Ok w) (h : x.f1.n < 1000000) : ∃ vs, RepBlock w x.cells.toArray vs := by
 obtain ⟨L, hl, hL⟩ := rowInstr_in o.o1.elt
 have hn : L.length = x.f1.n := by have q := o.o1.len; rw [hl] at q; simpa [rowsK] using q
 exact ⟨_, x.f0, x.f1.A, x.f1.n, x.f1.cap, L, rfl, rfl, o.o0, by rw [← hl]; exact o.o1.at_, hn, h, hL⟩
theorem GroupN.rep {w : World} {x : GroupN} (o : x.Ok w) (h : x.f3.n < 1000000) : ∃ vs, RepGroup w x.cells.toArray vs := by
 obtain ⟨L, hl, hL⟩ := rowBucket_in o.o3.elt
 have hn : L.length = x.f3.n := by have q := o.o3.len; rw [hl] at q; simpa [rowsK] using q
 exact ⟨_, x.f0, x.f1, x.f2, x.f3.A, x.f3.n, x.f3.cap, L, rfl, rfl, o.o0, o.o1, o.o2, by rw [← hl]; exact o.o3.at_, hn, h, hL⟩
theorem MeterN.rep {w : World} {x : MeterN} (o : x.Ok w) : ∃ vs, RepMeter w x.cells.toArray vs := by
 exact ⟨_, x.f0, x.f1, x.f2, rfl, rfl, o.o0, o.o1, o.o2⟩
theorem RegsN.rep {w : World} {x : RegsN} (o : x.Ok w) : ∃ vs, RepRegs w x.cells.toArray vs := by
 exact ⟨_, x.f0, x.f1, rfl, rfl, o.o0, o.o1⟩
theorem MsgN.rep {w : World} {x : MsgN} (o : x.Ok w) (hNode : x.f11.f7.n < 1000000) (hTable : x.f13.f2.n < 1000000) (hEntry : x.f14.f6.n < 1000000) (hBlock : x.f15.f1.n < 1000000) (hGroup : x.f16.f3.n < 1000000) : ∃ V, RepA w x.cells.toArray V := by
 obtain ⟨v0, r0⟩ := NodeN.rep o.o11 hNode
 obtain ⟨v1, r1⟩ := FieldN.rep o.o12
 obtain ⟨v2, r2⟩ := TableN.rep o.o13 hTable
 obtain ⟨v3, r3⟩ := EntryN.rep o.o14 hEntry
 obtain ⟨v4, r4⟩ := BlockN.rep o.o15 hBlock
 obtain ⟨v5, r5⟩ := GroupN.rep o.o16 hGroup
 obtain ⟨v6, r6⟩ := MeterN.rep o.o17
 obtain ⟨v7, r7⟩ := RegsN.rep o.o18
 exact ⟨fun k => match k with | 0 => v0 | 1 => v1 | 2 => v2 | 3 => v3 | 4 => v4 | 5 => v5 | 6 => v6 | _ => v7, rfl, r0, r1, r2, r3, r4, r5, r6, r7⟩
structure MsgD where
 kind : Int
 xid : Int
 id : Int
 idx : Int
 code : Int
 port : Int
 tag : Int
 n : Int
 m : Int
 data : ByteArray
 words : List (List Int)
 V : Nat → List ValN
def MsgD.ps (d : MsgD) : List PartN := [.one (.num d.id), .one (.num d.idx), .one (.num d.code), .one (.num d.port), .one (.num d.tag), .one (.num d.n), .one (.num d.m), .one (.txt d.data), .one (.lst d.words), .obj (d.V 0), .obj (d.V 1), .obj (d.V 2), .obj (d.V 3), .obj (d.V 4), .obj (d.V 5), .obj (d.V 6), .obj (d.V 7)]
structure RowW (w : World) (v : Value) (L : List (List Int)) (A : Option Addr) (n cap : Nat) : Prop where
 val : v = .slice A n cap
 row : RowAt w A 1 (rowsK ksArg L)
 len : L.length = n
 few : n < 1000000
 wf : ∀ x ∈ L, wfK ksArg x
structure RepD (w : World) (M : Array Value) (d : MsgD) : Prop where
 A : RepA w M d.V
 c0 : M[0]? = some (.int .u8 d.kind)
 w0 : (Lit.int .u8 d.kind).wf = true
 c1 : M[1]? = some (.int .u32 d.xid)
 w1 : (Lit.int .u32 d.xid).wf = true
 c2 : M[2]? = some (.int .i64 d.id)
 w2 : (Lit.int .i64 d.id).wf = true
 c3 : M[3]? = some (.int .i64 d.idx)
 w3 : (Lit.int .i64 d.idx).wf = true
 c4 : M[4]? = some (.int .i64 d.code)
 w4 : (Lit.int .i64 d.code).wf = true
 c5 : M[5]? = some (.int .i64 d.port)
 w5 : (Lit.int .i64 d.port).wf = true
 c6 : M[6]? = some (.int .i64 d.tag)
 w6 : (Lit.int .i64 d.tag).wf = true
 c7 : M[7]? = some (.int .u64 d.n)
 w7 : (Lit.int .u64 d.n).wf = true
 c8 : M[8]? = some (.int .u64 d.m)
 w8 : (Lit.int .u64 d.m).wf = true
 c9 : M[9]? = some (.string d.data)
 w9 : d.data.size ≤ maxLen
 c10 : ∃ v A n cap, M[10]? = some v ∧ RowW w v d.words A n cap
theorem RepD.size {w : World} {M : Array Value} {d : MsgD} (h : RepD w M d) : M.size = 52 := h.A.size
theorem RepD.on {W w : World} {M : Array Value} {d : MsgD} (h : RepD W M d) (g : Wider W w) : RepD w M d :=
 ⟨h.A.on g, h.c0, h.w0, h.c1, h.w1, h.c2, h.w2, h.c3, h.w3, h.c4, h.w4, h.c5, h.w5, h.c6, h.w6, h.c7, h.w7, h.c8, h.w8, h.c9, h.w9, by
  obtain ⟨v, A, n, cap, e, r⟩ := h.c10
  exact ⟨v, A, n, cap, e, r.val, r.row.on g, r.len, r.few, r.wf⟩⟩
def SameD (d e : MsgD) : Prop := d.kind = e.kind ∧ d.xid = e.xid ∧ d.ps = e.ps
theorem ps_eq (d e : MsgD) : d.ps = e.ps ↔ d.id = e.id ∧ d.idx = e.idx ∧ d.code = e.code ∧ d.port = e.port ∧ d.tag = e.tag ∧ d.n = e.n ∧ d.m = e.m ∧ d.data = e.data ∧ d.words = e.words ∧ d.V 0 = e.V 0 ∧ d.V 1 = e.V 1 ∧ d.V 2 = e.V 2 ∧ d.V 3 = e.V 3 ∧ d.V 4 = e.V 4 ∧ d.V 5 = e.V 5 ∧ d.V 6 = e.V 6 ∧ d.V 7 = e.V 7 := by
 simp only [MsgD.ps, List.cons.injEq, and_true, PartN.one.injEq, PartN.obj.injEq, ValN.num.injEq, ValN.txt.injEq, ValN.lst.injEq]
theorem ps_length (d : MsgD) : d.ps.length = 17 := rfl
theorem MsgN.repD {w : World} {x : MsgN} (o : x.Ok w) (f : x.Few) (hNode : x.f11.f7.n < 1000000) (hTable : x.f13.f2.n < 1000000) (hEntry : x.f14.f6.n < 1000000) (hBlock : x.f15.f1.n < 1000000) (hGroup : x.f16.f3.n < 1000000) (hW : x.f10.n < 1000000) : ∃ d, RepD w x.cells.toArray d := by
 obtain ⟨V, R⟩ := MsgN.rep o hNode hTable hEntry hBlock hGroup
 obtain ⟨L, hl, hL⟩ := rowArg_in o.o10.elt
 have hn : L.length = x.f10.n := by have q := o.o10.len; rw [hl] at q; simpa [rowsK] using q
 exact ⟨⟨x.f0, x.f1, x.f2, x.f3, x.f4, x.f5, x.f6, x.f7, x.f8, x.f9, L, V⟩, R, rfl, o.o0, rfl, o.o1, rfl, o.o2, rfl, o.o3, rfl, o.o4, rfl, o.o5, rfl, o.o6, rfl, o.o7, rfl, o.o8, rfl, o.o9, _, x.f10.A, x.f10.n, x.f10.cap, rfl, rfl, by rw [← hl]; exact o.o10.at_, hn, hW, hL⟩
theorem quiet_cell {P : Program} {op : Oper} {a : Act} {Cl : World → Prop} {K : Act → Prop} (ty : TypeId) (x : Operand) (hop : op.op = .load ty x)
 (g o : Nat) (hx : a.eval x = .pointer (some ⟨g, o, none⟩)) {v : Value} (hg : ∀ w, Cl w → w.cell? ⟨g, o, none⟩ = some v) (d : TypeDesc)
 (hu : P.underlying ty = some d) (hd : d.isRow = false) (h : K (a.put op.dst v)) : op.quiet P a Cl K :=
 ⟨_, fun w hw => by
  have hagg : (isAgg ty).run P w = .ok false w := by
   unfold isAgg
   rw [Sem.run_bind, run_underlying hu w]
   cases d <;> simp_all
  have q : (Instr.loadAt ty (.pointer (some ⟨g, o, none⟩))).run P w = .ok v w := by
   simp [Instr.loadAt, Instr.sureAddr, loadVar, Sem.run_bind, hagg, hg w hw]
  unfold Oper.quietAt execOp; simp only [hop, hx, Sem.run_bind, q, Result.andThen_ok, Sem.run_pure]; exact ⟨rfl, rfl⟩, h⟩
end Go.Proofs.YtoopdhgmdjienaaGreatDoor
