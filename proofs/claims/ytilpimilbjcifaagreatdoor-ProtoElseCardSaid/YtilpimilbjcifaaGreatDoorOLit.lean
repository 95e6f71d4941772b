/- Literals of messages: one object set, and the slice of eight of them; the helpers of layer 8's laws on messages by parts. -/
import Derived.Test.YtilpimilbjcifaaGreatDoorOMsgA
import Derived.Test.YtilpimilbjcifaaGreatDoorOReads
import Derived.Test.YtilpimilbjcifaaGreatDoorOPuts
import Derived.Laws.Tables
namespace Go.Proofs.YtilpimilbjcifaaGreatDoor
set_option linter.unusedVariables false
set_option maxRecDepth 20000
open Go.ChangeShapes Go.WideShapes Go.ChangeAt Go.RowKit Go.Joins
open Go.ChangeMaps (open_string shut_string)

theorem zM_size : zM.size = 52 := rfl
def zV (k : Nat) : List ValN := zeroG (csKind k)
theorem zM_rep (w : World) : RepA w zM zV := ⟨rfl, zeroNode w, zeroField w, zeroTable w, zeroEntry w, zeroBlock w, zeroGroup w, zeroMeter w, zeroRegs w⟩
theorem build0 (w : World) : (Instr.build 51 #[]).run Tryz.prog w = .ok (.agg zM) w := run_build w _ #[] zM (by kernel_rfl)
theorem buildNode (w : World) {c : Array Value} (hc : c.size = 9) : (Instr.build 51 #[(11, .agg c)]).run Tryz.prog w = .ok (.agg (setPart zM 11 c)) w := by
  obtain ⟨c0, c1, c2, c3, c4, c5, c6, c7, c8, rfl⟩ := arr9 hc
  exact run_build w _ _ (setPart zM 11 #[c0, c1, c2, c3, c4, c5, c6, c7, c8]) (by kernel_rfl)
theorem buildField (w : World) {c : Array Value} (hc : c.size = 5) : (Instr.build 51 #[(12, .agg c)]).run Tryz.prog w = .ok (.agg (setPart zM 20 c)) w := by
  obtain ⟨c0, c1, c2, c3, c4, rfl⟩ := arr5 hc
  exact run_build w _ _ (setPart zM 20 #[c0, c1, c2, c3, c4]) (by kernel_rfl)
theorem buildTable (w : World) {c : Array Value} (hc : c.size = 5) : (Instr.build 51 #[(13, .agg c)]).run Tryz.prog w = .ok (.agg (setPart zM 25 c)) w := by
  obtain ⟨c0, c1, c2, c3, c4, rfl⟩ := arr5 hc
  exact run_build w _ _ (setPart zM 25 #[c0, c1, c2, c3, c4]) (by kernel_rfl)
theorem buildEntry (w : World) {c : Array Value} (hc : c.size = 11) : (Instr.build 51 #[(14, .agg c)]).run Tryz.prog w = .ok (.agg (setPart zM 30 c)) w := by
  obtain ⟨c0, c1, c2, c3, c4, c5, c6, c7, c8, c9, c10, rfl⟩ := arr11 hc
  exact run_build w _ _ (setPart zM 30 #[c0, c1, c2, c3, c4, c5, c6, c7, c8, c9, c10]) (by kernel_rfl)
theorem buildBlock (w : World) {c : Array Value} (hc : c.size = 2) : (Instr.build 51 #[(15, .agg c)]).run Tryz.prog w = .ok (.agg (setPart zM 41 c)) w := by
  obtain ⟨c0, c1, rfl⟩ := arr2 hc
  exact run_build w _ _ (setPart zM 41 #[c0, c1]) (by kernel_rfl)
theorem buildGroup (w : World) {c : Array Value} (hc : c.size = 4) : (Instr.build 51 #[(16, .agg c)]).run Tryz.prog w = .ok (.agg (setPart zM 43 c)) w := by
  obtain ⟨c0, c1, c2, c3, rfl⟩ := arr4 hc
  exact run_build w _ _ (setPart zM 43 #[c0, c1, c2, c3]) (by kernel_rfl)
theorem buildMeter (w : World) {c : Array Value} (hc : c.size = 3) : (Instr.build 51 #[(17, .agg c)]).run Tryz.prog w = .ok (.agg (setPart zM 47 c)) w := by
  obtain ⟨c0, c1, c2, rfl⟩ := arr3 hc
  exact run_build w _ _ (setPart zM 47 #[c0, c1, c2]) (by kernel_rfl)
theorem buildRegs (w : World) {c : Array Value} (hc : c.size = 2) : (Instr.build 51 #[(18, .agg c)]).run Tryz.prog w = .ok (.agg (setPart zM 50 c)) w := by
  obtain ⟨c0, c1, rfl⟩ := arr2 hc
  exact run_build w _ _ (setPart zM 50 #[c0, c1]) (by kernel_rfl)
theorem setNode {w : World} {c : Array Value} {vs : List ValN} (h : RepNode w c vs) : RepA w (setPart zM 11 c) (fun j => if j = 0 then vs else zV j) := by
  have hs : c.size = 9 := h.size
  have hl : 11 + c.size ≤ zM.size := by rw [hs]; decide
  have zr := zM_rep w
  exact ⟨by rw [setPart_size hl]; rfl, by rw [setPart_self (by rw [hs]) hl]; exact h, by rw [setPart_apart hl (by decide) (by rw [hs]; decide)]; exact zr.r1, by rw [setPart_apart hl (by decide) (by rw [hs]; decide)]; exact zr.r2, by rw [setPart_apart hl (by decide) (by rw [hs]; decide)]; exact zr.r3, by rw [setPart_apart hl (by decide) (by rw [hs]; decide)]; exact zr.r4, by rw [setPart_apart hl (by decide) (by rw [hs]; decide)]; exact zr.r5, by rw [setPart_apart hl (by decide) (by rw [hs]; decide)]; exact zr.r6, by rw [setPart_apart hl (by decide) (by rw [hs]; decide)]; exact zr.r7⟩
theorem setField {w : World} {c : Array Value} {vs : List ValN} (h : RepField w c vs) : RepA w (setPart zM 20 c) (fun j => if j = 1 then vs else zV j) := by
  have hs : c.size = 5 := h.size
  have hl : 20 + c.size ≤ zM.size := by rw [hs]; decide
  have zr := zM_rep w
  exact ⟨by rw [setPart_size hl]; rfl, by rw [setPart_apart hl (by decide) (by rw [hs]; decide)]; exact zr.r0, by rw [setPart_self (by rw [hs]) hl]; exact h, by rw [setPart_apart hl (by decide) (by rw [hs]; decide)]; exact zr.r2, by rw [setPart_apart hl (by decide) (by rw [hs]; decide)]; exact zr.r3, by rw [setPart_apart hl (by decide) (by rw [hs]; decide)]; exact zr.r4, by rw [setPart_apart hl (by decide) (by rw [hs]; decide)]; exact zr.r5, by rw [setPart_apart hl (by decide) (by rw [hs]; decide)]; exact zr.r6, by rw [setPart_apart hl (by decide) (by rw [hs]; decide)]; exact zr.r7⟩
theorem setTable {w : World} {c : Array Value} {vs : List ValN} (h : RepTable w c vs) : RepA w (setPart zM 25 c) (fun j => if j = 2 then vs else zV j) := by
  have hs : c.size = 5 := h.size
  have hl : 25 + c.size ≤ zM.size := by rw [hs]; decide
  have zr := zM_rep w
  exact ⟨by rw [setPart_size hl]; rfl, by rw [setPart_apart hl (by decide) (by rw [hs]; decide)]; exact zr.r0, by rw [setPart_apart hl (by decide) (by rw [hs]; decide)]; exact zr.r1, by rw [setPart_self (by rw [hs]) hl]; exact h, by rw [setPart_apart hl (by decide) (by rw [hs]; decide)]; exact zr.r3, by rw [setPart_apart hl (by decide) (by rw [hs]; decide)]; exact zr.r4, by rw [setPart_apart hl (by decide) (by rw [hs]; decide)]; exact zr.r5, by rw [setPart_apart hl (by decide) (by rw [hs]; decide)]; exact zr.r6, by rw [setPart_apart hl (by decide) (by rw [hs]; decide)]; exact zr.r7⟩
theorem setEntry {w : World} {c : Array Value} {vs : List ValN} (h : RepEntry w c vs) : RepA w (setPart zM 30 c) (fun j => if j = 3 then vs else zV j) := by
  have hs : c.size = 11 := h.size
  have hl : 30 + c.size ≤ zM.size := by rw [hs]; decide
  have zr := zM_rep w
  exact ⟨by rw [setPart_size hl]; rfl, by rw [setPart_apart hl (by decide) (by rw [hs]; decide)]; exact zr.r0, by rw [setPart_apart hl (by decide) (by rw [hs]; decide)]; exact zr.r1, by rw [setPart_apart hl (by decide) (by rw [hs]; decide)]; exact zr.r2, by rw [setPart_self (by rw [hs]) hl]; exact h, by rw [setPart_apart hl (by decide) (by rw [hs]; decide)]; exact zr.r4, by rw [setPart_apart hl (by decide) (by rw [hs]; decide)]; exact zr.r5, by rw [setPart_apart hl (by decide) (by rw [hs]; decide)]; exact zr.r6, by rw [setPart_apart hl (by decide) (by rw [hs]; decide)]; exact zr.r7⟩
theorem setBlock {w : World} {c : Array Value} {vs : List ValN} (h : RepBlock w c vs) : RepA w (setPart zM 41 c) (fun j => if j = 4 then vs else zV j) := by
  have hs : c.size = 2 := h.size
  have hl : 41 + c.size ≤ zM.size := by rw [hs]; decide
  have zr := zM_rep w
  exact ⟨by rw [setPart_size hl]; rfl, by rw [setPart_apart hl (by decide) (by rw [hs]; decide)]; exact zr.r0, by rw [setPart_apart hl (by decide) (by rw [hs]; decide)]; exact zr.r1, by rw [setPart_apart hl (by decide) (by rw [hs]; decide)]; exact zr.r2, by rw [setPart_apart hl (by decide) (by rw [hs]; decide)]; exact zr.r3, by rw [setPart_self (by rw [hs]) hl]; exact h, by rw [setPart_apart hl (by decide) (by rw [hs]; decide)]; exact zr.r5, by rw [setPart_apart hl (by decide) (by rw [hs]; decide)]; exact zr.r6, by rw [setPart_apart hl (by decide) (by rw [hs]; decide)]; exact zr.r7⟩
theorem setGroup {w : World} {c : Array Value} {vs : List ValN} (h : RepGroup w c vs) : RepA w (setPart zM 43 c) (fun j => if j = 5 then vs else zV j) := by
  have hs : c.size = 4 := h.size
  have hl : 43 + c.size ≤ zM.size := by rw [hs]; decide
  have zr := zM_rep w
  exact ⟨by rw [setPart_size hl]; rfl, by rw [setPart_apart hl (by decide) (by rw [hs]; decide)]; exact zr.r0, by rw [setPart_apart hl (by decide) (by rw [hs]; decide)]; exact zr.r1, by rw [setPart_apart hl (by decide) (by rw [hs]; decide)]; exact zr.r2, by rw [setPart_apart hl (by decide) (by rw [hs]; decide)]; exact zr.r3, by rw [setPart_apart hl (by decide) (by rw [hs]; decide)]; exact zr.r4, by rw [setPart_self (by rw [hs]) hl]; exact h, by rw [setPart_apart hl (by decide) (by rw [hs]; decide)]; exact zr.r6, by rw [setPart_apart hl (by decide) (by rw [hs]; decide)]; exact zr.r7⟩
theorem setMeter {w : World} {c : Array Value} {vs : List ValN} (h : RepMeter w c vs) : RepA w (setPart zM 47 c) (fun j => if j = 6 then vs else zV j) := by
  have hs : c.size = 3 := h.size
  have hl : 47 + c.size ≤ zM.size := by rw [hs]; decide
  have zr := zM_rep w
  exact ⟨by rw [setPart_size hl]; rfl, by rw [setPart_apart hl (by decide) (by rw [hs]; decide)]; exact zr.r0, by rw [setPart_apart hl (by decide) (by rw [hs]; decide)]; exact zr.r1, by rw [setPart_apart hl (by decide) (by rw [hs]; decide)]; exact zr.r2, by rw [setPart_apart hl (by decide) (by rw [hs]; decide)]; exact zr.r3, by rw [setPart_apart hl (by decide) (by rw [hs]; decide)]; exact zr.r4, by rw [setPart_apart hl (by decide) (by rw [hs]; decide)]; exact zr.r5, by rw [setPart_self (by rw [hs]) hl]; exact h, by rw [setPart_apart hl (by decide) (by rw [hs]; decide)]; exact zr.r7⟩
theorem setRegs {w : World} {c : Array Value} {vs : List ValN} (h : RepRegs w c vs) : RepA w (setPart zM 50 c) (fun j => if j = 7 then vs else zV j) := by
  have hs : c.size = 2 := h.size
  have hl : 50 + c.size ≤ zM.size := by rw [hs]; decide
  have zr := zM_rep w
  exact ⟨by rw [setPart_size hl]; rfl, by rw [setPart_apart hl (by decide) (by rw [hs]; decide)]; exact zr.r0, by rw [setPart_apart hl (by decide) (by rw [hs]; decide)]; exact zr.r1, by rw [setPart_apart hl (by decide) (by rw [hs]; decide)]; exact zr.r2, by rw [setPart_apart hl (by decide) (by rw [hs]; decide)]; exact zr.r3, by rw [setPart_apart hl (by decide) (by rw [hs]; decide)]; exact zr.r4, by rw [setPart_apart hl (by decide) (by rw [hs]; decide)]; exact zr.r5, by rw [setPart_apart hl (by decide) (by rw [hs]; decide)]; exact zr.r6, by rw [setPart_self (by rw [hs]) hl]; exact h⟩
theorem wpList_buildSlice {P : Program} {ops : Array Oper} {rest : List Oper} {op : Oper} {a : Act} {w w' : World} {Q : Exit → Act → World → Prop} (hgd : op.guard = none) (t : TypeId) (n : Nat) (parts : Array (Nat × Operand)) (hop : op.op = .buildSlice t n parts)
    {ps : Array (Nat × Value)} (hps : (parts.map fun (i, x) => (i, a.eval x)) = ps) {v : Value} (hrun : (Instr.buildSlice t n ps).run P w = .ok v w')
    (h : wpList P ops Q rest (a.put op.dst v) w') : wpList P ops Q (op :: rest) a w := by
  subst hps
  refine wpList_plain hgd fun _ hK => ?_
  have hh := hK _ _ h
  unfold Oper.wp execOp
  simp only [hop, Sem.run_bind, hrun, Result.andThen_ok, Sem.run_pure]
  exact hh
theorem wp_build {P : Program} {op : Oper} {a : Act} {w : World} {K : Act → World → Prop} {Q : Exit → Act → World → Prop} (t : TypeId) (parts : Array (Nat × Operand)) (hop : op.op = .build t parts)
    {ps : Array (Nat × Value)} (hps : (parts.map fun (i, x) => (i, a.eval x)) = ps) {cells : Array Value} (hrun : (Instr.build t ps).run P w = .ok (.agg cells) w)
    (h : K (a.put op.dst (.agg cells)) w) : op.wp P a w K Q := by
  subst hps
  unfold Oper.wp execOp
  simp only [hop, Sem.run_bind, hrun, Result.andThen_ok, Sem.run_pure]
  exact h
theorem RepA.one {w : World} {M : Array Value} {V : Nat → List ValN} (h : RepA w M V) (hf : ∀ v ∈ (M.extract 0 11).toList, v.oneCell' = true) : M.all (·.oneCell') = true := by
  rw [Array.all_eq_true_iff_forall_mem]
  intro v hv
  obtain ⟨i, hi, rfl⟩ := Array.mem_iff_getElem.1 hv
  have hs := h.size
  have g : ∀ a b : Nat, (M.extract a b).all (·.oneCell') = true → a ≤ i → i < b → b ≤ 52 → M[i].oneCell' = true := fun a b h1 h2 h3 h4 => by
    rw [Array.all_eq_true_iff_forall_mem] at h1
    refine h1 _ ?_
    rw [Array.mem_iff_getElem?]
    refine ⟨i - a, ?_⟩
    rw [extract_get M a b _ (by omega), if_pos (by omega), show a + (i - a) = i by omega]
    exact Array.getElem?_eq_getElem hi
  by_cases c0 : i < 11
  · exact g 0 11 (by rw [Array.all_eq_true_iff_forall_mem]; exact fun v hv => hf v (Array.mem_toList_iff.2 hv)) (by omega) c0 (by omega)
  by_cases c1 : i < 20
  · exact g 11 20 h.r0.one (by omega) c1 (by omega)
  by_cases c2 : i < 25
  · exact g 20 25 h.r1.one (by omega) c2 (by omega)
  by_cases c3 : i < 30
  · exact g 25 30 h.r2.one (by omega) c3 (by omega)
  by_cases c4 : i < 41
  · exact g 30 41 h.r3.one (by omega) c4 (by omega)
  by_cases c5 : i < 43
  · exact g 41 43 h.r4.one (by omega) c5 (by omega)
  by_cases c6 : i < 47
  · exact g 43 47 h.r5.one (by omega) c6 (by omega)
  by_cases c7 : i < 50
  · exact g 47 50 h.r6.one (by omega) c7 (by omega)
  by_cases c8 : i < 52
  · exact g 50 52 h.r7.one (by omega) c8 (by omega)
  omega
end Go.Proofs.YtilpimilbjcifaaGreatDoor
