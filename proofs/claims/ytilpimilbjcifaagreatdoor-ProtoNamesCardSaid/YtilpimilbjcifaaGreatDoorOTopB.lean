/- Texts that belong together, one behind the other: OTop ORows ORep. -/
import Derived.Test.YtilpimilbjcifaaGreatDoorOItemG
import Derived.Deep.MidRow
import Derived.Deep.WholeRow

/- Package obj's may; what its calls share. -/
namespace Go.Proofs.YtilpimilbjcifaaGreatDoor
set_option linter.unusedVariables false
set_option maxRecDepth 20000
open Go.ChangeShapes Go.WideShapes Go.ChangeAt Go.RowKit Go.Joins
open Go.ChangeMaps (open_string shut_string)

theorem arr_of {C D : Array Value} (hs : C.size = D.size) (h : ∀ i, i < D.size → C[i]? = D[i]?) : C = D := by
  apply Array.ext_getElem?
  intro i
  by_cases c : i < D.size
  · exact h i c
  · rw [Array.getElem?_eq_none (by omega), Array.getElem?_eq_none (by omega)]
theorem putG_of {β : Type} {cs : List (Cod β)} {xs : List β} {b : Bool} (hb : b = true ↔ okG cs xs) {T : ByteArray} (hT : (if b = true then encG cs xs else ⟨#[]⟩) = T) {r : Nat} (hr : (if b = true then 0 else 3) = r) : PutG cs xs T r := by
  cases b with
  | true => exact .inl ⟨hb.1 rfl, hT.symm, hr.symm⟩
  | false => exact .inr ⟨fun h => absurd (hb.2 h) (by decide), hT.symm, hr.symm⟩
theorem putG_any {β : Type} {cs : List (Cod β)} {xs : List β} {b : Bool} (hb : b = true ↔ okG cs xs) : ∃ T r, PutG cs xs T r ∧ (b = true ↔ r = 0) := by
  cases b with
  | true => exact ⟨_, 0, .inl ⟨hb.1 rfl, rfl, rfl⟩, by simp⟩
  | false => exact ⟨_, 3, .inr ⟨fun h => absurd (hb.2 h) (by decide), rfl, rfl⟩, by simp⟩
theorem wf1 {k : IntKind} {n : Int} (h : (Lit.int k n).wf = true) : wfK [k] [n] :=
  ⟨rfl, fun i k2 n2 h1 h2 => by
    match i, h1, h2 with
    | 0, h1, h2 => simp at h1 h2; subst h1 h2; exact h
    | i + 1, h1, h2 => simp at h1⟩
theorem rowsI_K (k : IntKind) (L : List Int) : rowsI k L = rowsK [k] (L.map fun x => [x]) := by simp [rowsI, rowsK]
theorem cellsI_K (k : IntKind) (L : List Int) : L.map (Value.int k) = cellsK [k] (L.map fun x => [x]) := by
  unfold cellsK
  induction L with
  | nil => rfl
  | cons x L ih => simp only [List.map_cons, List.flatMap_cons, ih]; rfl
/-! ### Whole blocks, loaded and stored -/
theorem load_blk {P : Program} {w : World} {g : Nat} {t ty : TypeId} {cells : Array Value} {d : TypeDesc} (hg : w.heap[g]? = some (.cells cells t (0, 0))) (hu : P.underlying ty = some d) (hd : d.isRow = true) (hi : (P.info? ty).map (·.size) = some cells.size) :
    (Instr.loadAt ty (.pointer (some ⟨g, 0, none⟩))).run P w = .ok (.agg cells) w := by
  have h := run_loadAt_mid (P := P) w g 0 ty cells.toList d (fun j v hv => by rw [Nat.zero_add]; exact blk_cell hg j (by simpa using hv)) hu hd (by simpa using hi)
  simpa using h
theorem store_blk {P : Program} {w : World} {g : Nat} {t ty : TypeId} {old cells : Array Value} (hg : w.heap[g]? = some (.cells old t (0, 0))) (hi : (P.info? ty).map (·.size) = some cells.size) (ho : old.size = cells.size) (h1 : cells.all (·.oneCell') = true) :
    ∃ W, (Instr.storeAt ty (.pointer (some ⟨g, 0, none⟩)) (.agg cells)).run P w = .ok () W ∧ WBut [g] w W ∧ W.heap[g]? = some (.cells cells t (0, 0)) := by
  have hlt : g < w.heap.size := (Array.getElem?_eq_some_iff.1 hg).1
  refine ⟨w.setRow g cells, ?_, ⟨rfl, rfl, by simp [World.setRow], fun i hi hF => ?_⟩, ?_⟩
  · simp only [Instr.storeAt, Instr.sureAddr, Sem.run_bind, Sem.run_pure, Result.andThen_ok]
    exact run_storeVar_row w g t ty old cells hg hi ho h1
  · simp only [World.setRow, Array.getElem?_modify]
    rw [if_neg (fun e => hF (by rw [e]; simp))]
  · simp only [World.setRow, Array.getElem?_modify, if_true]
    rw [hg]; rfl
theorem setRow_facts {w : World} {g : Nat} {t : TypeId} {old : Array Value} (cells : Array Value) (hg : w.heap[g]? = some (.cells old t (0, 0))) : WBut [g] w (w.setRow g cells) ∧ (w.setRow g cells).heap[g]? = some (.cells cells t (0, 0)) := by
  refine ⟨⟨rfl, rfl, by simp [World.setRow], fun i hi hF => ?_⟩, ?_⟩
  · simp only [World.setRow, Array.getElem?_modify]
    rw [if_neg (fun e => hF (by rw [e]; simp))]
  · simp only [World.setRow, Array.getElem?_modify, if_true]
    rw [hg]; rfl
end Go.Proofs.YtilpimilbjcifaaGreatDoor

/- Rows of items, package obj: new ones, owned ones, as they come in. -/
namespace Go.Proofs.YtilpimilbjcifaaGreatDoor
set_option linter.unusedVariables false
set_option maxRecDepth 20000
open Go.ChangeShapes Go.WideShapes Go.ChangeAt Go.RowKit Go.Joins

theorem cellsK_at (ks : List IntKind) : ∀ (L : List (List Int)), (∀ x ∈ L, x.length = ks.length) → ∀ (j : Nat) x i v, L[j]? = some x → (List.zipWith Value.int ks x)[i]? = some v → (cellsK ks L)[j * ks.length + i]? = some v
  | [], _, j, x, i, v, h, _ => by simp at h
  | y :: L, hl, 0, x, i, v, h, hv => by
    simp at h
    subst h
    have e : cellsK ks (y :: L) = List.zipWith Value.int ks y ++ cellsK ks L := rfl
    rw [e, Nat.zero_mul, Nat.zero_add, List.getElem?_append_left (List.getElem?_eq_some_iff.1 hv).1]
    exact hv
  | y :: L, hl, j + 1, x, i, v, h, hv => by
    have ih := cellsK_at ks L (fun z hz => hl z (.tail _ hz)) j x i v (by simpa using h) hv
    have e : cellsK ks (y :: L) = List.zipWith Value.int ks y ++ cellsK ks L := rfl
    have e2 : (List.zipWith Value.int ks y).length = ks.length := by rw [List.length_zipWith, hl y (.head _), Nat.min_self]
    rw [e, List.getElem?_append_right (by rw [e2, Nat.add_mul]; omega), e2]
    have e3 : (j + 1) * ks.length + i - ks.length = j * ks.length + i := by rw [Nat.add_mul]; omega
    rw [e3]; exact ih
/-- Cells of items that lie in a row. -/
theorem rowK_of {w : World} {A : Option Addr} {ks : List IntKind} {L : List (List Int)} (hl : ∀ x ∈ L, x.length = ks.length) (hA : A = none → L = []) (h : ∀ a, A = some a → ∀ j v, (cellsK ks L)[j]? = some v → w.cell? (a.add j) = some v) : RowAt w A ks.length (rowsK ks L) where
  none_ e := by rw [hA e]; rfl
  cell a e j x hx := by
    unfold rowsK at hx
    rw [List.getElem?_map] at hx
    cases hy : L[j]? with
    | none => rw [hy] at hx; cases hx
    | some y =>
      rw [hy] at hx
      simp only [Option.map_some, Option.some.injEq] at hx
      subst hx
      refine ⟨by rw [List.length_zipWith, hl y (List.mem_of_getElem? hy), Nat.min_self], fun i v hv => ?_⟩
      have q := h a e _ v (cellsK_at ks L hl j y i v hy hv)
      have ea : (a.add (j * ks.length)).add i = a.add (j * ks.length + i) := by
        unfold Addr.add
        by_cases h1 : j * ks.length = 0
        · simp [h1]
        · by_cases h2 : i = 0
          · subst h2; simp [h1]
          · simp [h1, h2, Nat.add_assoc]
      rw [ea]; exact q
theorem rowK_new (W : World) (ks : List IntKind) (L : List (List Int)) (t : TypeId) (C : Array Value) (hC : C.toList = cellsK ks L) (hl : ∀ x ∈ L, x.length = ks.length) : RowAt (W.alloc (.cells C t)) (some ⟨W.heap.size, 0, none⟩) ks.length (rowsK ks L) :=
  rowK_of hl (fun e => by cases e) fun a e j v hv => by
    obtain rfl : (⟨W.heap.size, 0, none⟩ : Addr) = a := by injection e
    rw [Addr.add_mid, Nat.zero_add]
    exact blk_cell (heap_alloc_new W _) j (by rw [← Array.getElem?_toList, hC]; exact hv)
theorem rowK_own {w : World} {b : Nat} {T : TypeId} {A : Option Addr} {n c : Nat} {ks : List IntKind} {L : List (List Int)} {size : Nat} (hs : size = ks.length) (h0 : 0 < ks.length) (hn : L.length = n) (hl : ∀ x ∈ L, x.length = ks.length) (h : w.ownsRow b T size (.slice A n c) n (cellsK ks L)) : RowAt w A ks.length (rowsK ks L) := by
  subst hs
  refine rowK_of hl (fun e => ?_) fun a e j v hv => ?_
  · subst e
    rcases h.2 with ⟨_, q⟩ | ⟨g, cap, cur, q, _⟩
    · rw [← hn] at q; exact List.eq_nil_of_length_eq_zero q
    · injection q with q; cases q
  · subst e
    have hh := h
    rcases h.2 with ⟨q, _⟩ | ⟨g, cap, cur, q, _⟩
    · injection q with q; cases q
    · injection q with q1 q2 q3
      injection q1 with q1
      subst q1
      exact World.ownsRow.cells (g := g) hh rfl j v hv
end Go.Proofs.YtilpimilbjcifaaGreatDoor

/- What an object's values are, as laws hold them: shared. -/
namespace Go.Proofs.YtilpimilbjcifaaGreatDoor
set_option linter.unusedVariables false
set_option maxRecDepth 20000
open Go.ChangeShapes Go.WideShapes Go.ChangeAt Go.RowKit Go.Joins
open Go.ChangeMaps (open_string shut_string)

theorem wf_i64 {v : Int} (h : 0 ≤ v ∧ v ≤ 9223372036854775807) : (Lit.int .i64 v).wf = true := by
  have h1 : IntKind.i64.min = -9223372036854775808 := rfl
  have h2 : IntKind.i64.max = 9223372036854775807 := rfl
  simp only [Lit.wf, Bool.and_eq_true, decide_eq_true_eq]; omega
theorem wf_u64 {v : Int} (h : 0 ≤ v ∧ v ≤ 18446744073709551615) : (Lit.int .u64 v).wf = true := by
  have h1 : IntKind.u64.min = 0 := rfl
  have h2 : IntKind.u64.max = 18446744073709551615 := rfl
  simp only [Lit.wf, Bool.and_eq_true, decide_eq_true_eq]; omega
theorem wf_u8 {v : Int} (h : 0 ≤ v ∧ v ≤ 255) : (Lit.int .u8 v).wf = true := by
  have h1 : IntKind.u8.min = 0 := rfl
  have h2 : IntKind.u8.max = 255 := rfl
  simp only [Lit.wf, Bool.and_eq_true, decide_eq_true_eq]; omega
theorem wf_u32 {v : Int} (h : 0 ≤ v ∧ v ≤ 4294967295) : (Lit.int .u32 v).wf = true := by
  have h1 : IntKind.u32.min = 0 := rfl
  have h2 : IntKind.u32.max = 4294967295 := rfl
  simp only [Lit.wf, Bool.and_eq_true, decide_eq_true_eq]; omega
theorem okG_dec {β : Type} (cs : List (Cod β)) {s : ByteArray} {vs : List β} {r : Nat} (h : decG cs s.data.toList = (vs, r)) : okG cs vs := by
  by_cases c : r = 0
  · subst c; exact (decG_inv cs s vs h).1
  · rcases decG_bad cs s.data.toList with k | ⟨k, _⟩
    · rw [h] at k; exact absurd k c
    · rw [h] at k
      have k : vs = zeroG cs := k
      rw [k]; exact okG_zero cs

theorem wfArm {x : List Int} (h : cArm.ok x) : wfK ksArm x := by
  have h2 : okG csArm x := h
  match x, h2 with
  | [x0, x1], h2 =>
    obtain ⟨⟨l0, u0⟩, ⟨l1, u1⟩, _⟩ := h2
    refine ⟨rfl, fun i k m h1 h2 => ?_⟩
    match i, h1, h2 with
    | 0, h1, h2 => simp [ksArm] at h1 h2; subst h1 h2; exact wf_u32 ⟨l0, Int.le_trans u0 (by decide)⟩
    | 1, h1, h2 => simp [ksArm] at h1 h2; subst h1 h2; exact wf_i64 ⟨l1, Int.le_trans u1 (by decide)⟩
    | i + 2, h1, h2 => simp [ksArm] at h1
theorem wfInstr {x : List Int} (h : cInstr.ok x) : wfK ksInstr x := by
  have h2 : okG csInstr x := h
  match x, h2 with
  | [x0, x1, x2, x3, x4, x5, x6], h2 =>
    obtain ⟨⟨l0, u0⟩, ⟨l1, u1⟩, ⟨l2, u2⟩, ⟨l3, u3⟩, ⟨l4, u4⟩, ⟨l5, u5⟩, ⟨l6, u6⟩, _⟩ := h2
    refine ⟨rfl, fun i k m h1 h2 => ?_⟩
    match i, h1, h2 with
    | 0, h1, h2 => simp [ksInstr] at h1 h2; subst h1 h2; exact wf_u8 ⟨l0, Int.le_trans u0 (by decide)⟩
    | 1, h1, h2 => simp [ksInstr] at h1 h2; subst h1 h2; exact wf_i64 ⟨l1, Int.le_trans u1 (by decide)⟩
    | 2, h1, h2 => simp [ksInstr] at h1 h2; subst h1 h2; exact wf_u8 ⟨l2, Int.le_trans u2 (by decide)⟩
    | 3, h1, h2 => simp [ksInstr] at h1 h2; subst h1 h2; exact wf_u64 ⟨l3, Int.le_trans u3 (by decide)⟩
    | 4, h1, h2 => simp [ksInstr] at h1 h2; subst h1 h2; exact wf_u8 ⟨l4, Int.le_trans u4 (by decide)⟩
    | 5, h1, h2 => simp [ksInstr] at h1 h2; subst h1 h2; exact wf_u64 ⟨l5, Int.le_trans u5 (by decide)⟩
    | 6, h1, h2 => simp [ksInstr] at h1 h2; subst h1 h2; exact wf_i64 ⟨l6, Int.le_trans u6 (by decide)⟩
    | i + 7, h1, h2 => simp [ksInstr] at h1
theorem wfBucket {x : List Int} (h : cBucket.ok x) : wfK ksBucket x := by
  have h2 : okG csBucket x := h
  match x, h2 with
  | [x0, x1], h2 =>
    obtain ⟨⟨l0, u0⟩, ⟨l1, u1⟩, _⟩ := h2
    refine ⟨rfl, fun i k m h1 h2 => ?_⟩
    match i, h1, h2 with
    | 0, h1, h2 => simp [ksBucket] at h1 h2; subst h1 h2; exact wf_u64 ⟨l0, Int.le_trans u0 (by decide)⟩
    | 1, h1, h2 => simp [ksBucket] at h1 h2; subst h1 h2; exact wf_i64 ⟨l1, Int.le_trans u1 (by decide)⟩
    | i + 2, h1, h2 => simp [ksBucket] at h1
theorem wfKey {x : List Int} (h : cKey.ok x) : wfK ksKey x := by
  obtain ⟨n, rfl, l, u⟩ := h
  exact wf1 (wf_i64 ⟨l, Int.le_trans u (by decide)⟩)
theorem wfArg {x : List Int} (h : cArg.ok x) : wfK ksArg x := by
  obtain ⟨n, rfl, l, u⟩ := h
  exact wf1 (wf_u64 ⟨l, Int.le_trans u (by decide)⟩)
end Go.Proofs.YtilpimilbjcifaaGreatDoor
