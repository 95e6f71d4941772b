/- Package exact: a map in memory, and its calls: by walks of its code. -/
import Derived.Test.YtgfdigjnecgliaaECodeC
import Derived.Deep.QuietTactic
import Derived.Laws.CopyRow
import Derived.Laws.CopyOwn
import Derived.Laws.Tables
import Derived.StillTailTactics
namespace Go.Proofs.Ytgfdigjnecgliaa
set_option linter.unusedVariables false
open Go.ChangeShapes Go.WideShapes Go.ChangeAt Go.RowKit Go.Joins
open Tab

/-! ### A map in memory -/
abbrev mapC (B n c : Nat) : Array Value := #[.slice (some ⟨B, 0, none⟩) n n, .int .i64 (c : Int)]
abbrev blkM (A B n c : Nat) : Thing := blkT A (mapC B n c) 42
def MapAt (w : World) (p : Addr) (L : SlotsE) (F : List Nat) : Prop :=
  ∃ A B, p = ⟨A, 0, none⟩ ∧ F = [A, B] ∧ A ≠ B ∧ w.heap[A]? = some (.cells (mapC B L.length (cnt L)) 42 (0, 0)) ∧ w.heap[B]? = some (.cells (cellsE L).toArray 47 (0, 0))
abbrev mapT (p : Addr) (L : SlotsE) (F : List Nat) : Thing := (F, fun w => MapAt w p L F)
theorem mapAt_stable (p : Addr) (L : SlotsE) (F : List Nat) : (mapT p L F).Stable := by
  rintro W w ⟨A, B, rfl, rfl, ne, h1, h2⟩ k
  exact ⟨A, B, rfl, rfl, ne, (k A (by simp)).trans h1, (k B (by simp)).trans h2⟩
theorem Own.mapOpen {V w : World} {R : List Thing} {p : Addr} {L : SlotsE} {F : List Nat} (H : Own V w (mapT p L F :: R)) : ∃ A B, p = ⟨A, 0, none⟩ ∧ Own V w (blkM A B L.length (cnt L) :: blkE B L :: R) := by
  obtain ⟨A, B, rfl, rfl, ne, h1, h2⟩ := H.head
  refine ⟨A, B, rfl, H.split (M := [blkM A B L.length (cnt L), blkE B L]) (fun t m => ?_) (fun t m => ?_) (fun t m i hi => ?_) ?_⟩
  · simp only [List.mem_cons, List.not_mem_nil, or_false] at m
    rcases m with rfl | rfl
    · exact h1
    · exact h2
  · simp only [List.mem_cons, List.not_mem_nil, or_false] at m
    rcases m with rfl | rfl <;> exact blk_stable _ _ _
  · simp only [List.mem_cons, List.not_mem_nil, or_false] at m
    rcases m with rfl | rfl <;> (simp only [List.mem_singleton] at hi; simp [hi])
  · refine List.pairwise_cons.2 ⟨fun r m i hi => ?_, List.pairwise_singleton _ _⟩
    obtain rfl := List.mem_singleton.1 m
    simp only [List.mem_singleton] at hi ⊢
    omega
theorem Own.mapShut {V w : World} {R : List Thing} {A B : Nat} {L : SlotsE} {n c : Nat} (hn : L.length = n) (hc : cnt L = c) (H : Own V w (blkM A B n c :: blkE B L :: R)) : ∃ F, Own V w (mapT ⟨A, 0, none⟩ L F :: R) := by
  subst hn hc
  refine ⟨[A, B], Own.join (M := [blkM A B L.length (cnt L), blkE B L]) H ⟨A, B, rfl, rfl, fun e => ?_, H.head, H.second⟩ (mapAt_stable _ _ _) fun i hi => ?_⟩
  · have k := (List.pairwise_cons.1 H.apart).1 (blkE B L) (.head _) A (by simp)
    subst e
    simp at k
  · simp only [List.mem_cons, List.not_mem_nil, or_false] at hi
    rcases hi with rfl | rfl
    · exact ⟨_, .head _, by simp⟩
    · exact ⟨_, .tail _ (.head _), by simp⟩

/-! ### The small calls -/
theorem etable_c {w : World} {A B n c : Nat} (h : w.heap[A]? = some (.cells (mapC B n c) 42 (0, 0))) (hn : 1 ≤ n) :
    Calls Try.prog 19 #[.pointer (some ⟨A, 0, none⟩)] w fun e w' => e = .returned (.slice (some ⟨B, 0, none⟩) n n) ∧ w = w' := by
  have c0 := blk_cell h 0 (v := .slice (some ⟨B, 0, none⟩) n n) rfl
  have d0 : ((n : Int) == 0) = false := by rw [beq_eq_false_iff_ne]; omega
  clear h
  go_enter Try.func19, Try.ntmps19
  go_wp2
  go_ret
  exact ⟨rfl, rfl⟩
theorem enew_1 {V w : World} {R : List Thing} (H : Own V w R) : Calls Try.prog 8 #[] w fun e w' => ∃ p F, e = .returned (.pointer (some p)) ∧ Own V w' (mapT p (List.replicate 8 none) F :: R) := by
  have mk := makeE 8 (by omega) w
  have H1 := ((H.blk (cellsE (List.replicate 8 none)).toArray 47).blk (mapC w.heap.size 8 0) 42)
  have hz : (w.alloc (.cells (cellsE (List.replicate 8 none)).toArray 47)).heap.size = w.heap.size + 1 := by simp
  rw [hz] at H1
  obtain ⟨F, H2⟩ := H1.mapShut (by simp) (cnt_replicate _)
  have mk : (Instr.makeSlice 40 (.int .i64 8) (.int .i64 8)).run Try.prog w = .ok (.slice (some ⟨w.heap.size, 0, none⟩) 8 8) (w.alloc (.cells (cellsE (List.replicate 8 none)).toArray 47)) := mk
  clear H H1 hz
  go_enter Try.func8, Try.ntmps8
  go_wp2
  go_ret
  exact ⟨_, _, rfl, H2⟩
theorem elen_c {w : World} {p : Addr} {L : SlotsE} {F : List Nat} (h : MapAt w p L F) : Calls Try.prog 11 #[.pointer (some p)] w fun e w' => e = .returned (.int .i64 (cnt L : Int)) ∧ Wider w w' := by
  obtain ⟨A, B, rfl, rfl, ne, h1, h2⟩ := h
  have c1 := blk_cell h1 1 (v := .int .i64 (cnt L : Int)) rfl
  clear h1 h2
  go_enter Try.func11, Try.ntmps11
  go_wp2
  go_ret
  exact ⟨rfl, Wider.refl w⟩
theorem eslots_c {w : World} {p : Addr} {L : SlotsE} {F : List Nat} (h : MapAt w p L F) (g : GoodE L) : Calls Try.prog 13 #[.pointer (some p)] w fun e w' => e = .returned (.int .i64 (L.length : Int)) ∧ Wider w w' := by
  obtain ⟨A, B, rfl, rfl, ne, h1, h2⟩ := h
  have zt := etable_c h1 (by have := g.eight; omega)
  clear h1 h2
  go_enter Try.func13, Try.ntmps13
  go_wp2_with (first
    | (go_at_call 19; ((with_reducible refine zt.mono ?_); rintro e w3 ⟨rfl, rfl⟩)))
  go_ret
  exact ⟨rfl, Wider.refl w⟩
theorem elooks_c {w : World} {p : Addr} {L : SlotsE} {F : List Nat} (h : MapAt w p L F) (g : GoodE L) (hl : L.length < 1000000) {k : ByteArray} (hk : k.size < 1000000) {d : Nat} (hd : LooksE L k d) :
    Calls Try.prog 12 #[.pointer (some p), .string k] w fun e w' => e = .returned (.int .i64 (d : Int)) ∧ Wider w w' := by
  obtain ⟨A, B, rfl, rfl, ne, h1, h2⟩ := h
  obtain ⟨n, hn⟩ : ∃ n, L.length = n := ⟨_, rfl⟩
  obtain ⟨q, hq, e⟩ := hd
  rw [hn] at h1 hl e
  have zt := etable_c h1 (by have := g.eight; omega)
  have zf := efind_c h2 hn hl hk hq e.symm
  clear h1 h2 hq e hn
  go_enter Try.func12, Try.ntmps12
  go_wp2_with (first
    | (go_at_call 19; ((with_reducible refine zt.mono ?_); rintro e w3 ⟨rfl, rfl⟩))
    | (go_at_call 20; ((with_reducible refine zf.mono ?_); rintro e w3 ⟨rfl, H⟩)))
  go_ret
  exact ⟨rfl, H⟩
theorem eget_c {w : World} {p : Addr} {L : SlotsE} {F : List Nat} (h : MapAt w p L F) (g : GoodE L) (hl : L.length < 1000000) {k : ByteArray} (hk : k.size < 1000000) {v : Int} {is : Bool} (hv : GetE L k v is) :
    Calls Try.prog 10 #[.pointer (some p), .string k] w fun e w' => e = .returned (.tuple #[.int .i64 v, .bool is]) ∧ Wider w w' := by
  obtain ⟨A, B, rfl, rfl, ne, h1, h2⟩ := h
  obtain ⟨n, hn⟩ : ∃ n, L.length = n := ⟨_, rfl⟩
  obtain ⟨q, hq⟩ := g.look k
  have ql := hq.lt
  obtain ⟨d, hd⟩ : ∃ d, D n (homeE k n) q + 1 = d := ⟨_, rfl⟩
  rw [hn] at h1 hl
  have zt := etable_c h1 (by have := g.eight; omega)
  have zf := efind_c h2 hn hl hk hq hd
  have q0 : (0 : Int) ≤ (q : Int) := by omega
  have q1 : (q : Int) < (n : Int) := by omega
  obtain ⟨x, hx⟩ : ∃ x, tk L q = x := ⟨_, rfl⟩
  have hv2 : numO x = v ∧ x.isSome = is := by
    rcases hq.here_ with e | ⟨u, e⟩
    · rw [hx] at e
      subst e
      rcases hv with ⟨rfl, hv⟩ | ⟨rfl, rfl, hv⟩
      · exact absurd hv (Tab.IsLook.absent g.inv hq hx v)
      · exact ⟨rfl, rfl⟩
    · rw [hx] at e
      subst e
      rcases hv with ⟨rfl, hv⟩ | ⟨rfl, rfl, hv⟩
      · exact ⟨Has.one g ⟨q, hx⟩ hv, rfl⟩
      · exact absurd ⟨q, hx⟩ (hv u)
  have HV := Lib.hid hv2
  have HB := Lib.hid h2
  have HX := Lib.hid hx
  have lB := (Array.getElem?_eq_some_iff.1 h2).1
  clear h1 h2 hq hd hn hv hv2 hx
  go_enter Try.func10, Try.ntmps10
  go_upto_region 5 with (first
    | (go_at_call 19; ((with_reducible refine zt.mono ?_); rintro e w3 ⟨rfl, rfl⟩))
    | (go_at_call 20; ((with_reducible refine zf.mono ?_); rintro e w3 ⟨rfl, H⟩; obtain ⟨c0, c1, c2⟩ := slot_cells ((wheap H lB).trans HB.out) ql HX.out; clear zf zt)))
  go_quiet (fail)
  go_wp2
  go_ret2
  exact ⟨by rw [HV.out.1, HV.out.2]; rfl, H⟩

/-! ### A copy -/
theorem run_copy_wide {P : Program} (w : World) (dT sT ty elem : TypeId) (g n k dCap sCap : Nat) (a : Addr) (cur : Array Value) (t : TypeId) (cs : List Value)
    (hu : P.underlying dT = some (.slice elem)) (hs : (P.info? elem).map (·.size) = some k) (hg : w.heap[g]? = some (.cells cur t (0, 0))) (hn : cs.length = n * k)
    (hsrc : ∀ j v, cs[j]? = some v → w.cell? (a.add j) = some v) (hfit : cs.length = cur.size) (h1 : ∀ v ∈ cs, v.oneCell' = true) :
    (Builtin.copy_ #[dT, sT] ty #[.slice (some ⟨g, 0, none⟩) n dCap, .slice (some a) n sCap]).run P w = .ok (goInt n) (w.setRow g cs.toArray) := by
  have hl := run_loadCells_list (P := P) w a cs hsrc
  have hst := run_storeCells_at P g 0 t cs 0 cur w hg (by simpa using Nat.le_of_eq hfit) h1
  have e1 : cur.toList.drop cs.length = [] := List.drop_eq_nil_of_le (by rw [hfit]; simp)
  rw [Nat.zero_add, Nat.zero_add, e1, List.take_zero, List.nil_append, List.append_nil] at hst
  cases hq : P.info? elem with
  | none => simp [hq] at hs
  | some i =>
    have hi : i.size = k := by simpa [hq] using hs
    simp [Builtin.copy_, run_underlying hu, Builtin.lenOf, Builtin.firstCells, sizeOf, typeInfo, hq, hi, ← hn, hl, hst]
theorem Own.setRow {V w : World} {R : List Thing} {B : Nat} {C : Array Value} {t : TypeId} (H : Own V w (blkT B C t :: R)) (C' : Array Value) : Own V (w.setRow B C') (blkT B C' t :: R) := by
  have hg := H.head
  have l : (w.setRow B C').heap.size = w.heap.size := by simp [World.setRow]
  refine H.turn ⟨rfl, rfl, Nat.le_of_eq l.symm, fun i hi hF => ?_⟩ (setRow_heap w B C C' t (0, 0) hg) (blk_stable _ _ _) fun i hi => ⟨.inl hi, by rw [l]; exact (H.new _ (.head _) i hi).2⟩
  simp only [World.setRow, Array.getElem?_modify]
  rw [if_neg (fun e => hF (by rw [e]; simp))]
theorem step_copy_e {P : Program} {w w' : World} {ops : Array Oper} {o : Oper} {a : Act} {K : Act → World → Prop} {Q : Exit → Act → World → Prop} {E : Prop} (hgd : o.guard = none) (s x : Operand) (t u : TypeId)
    (ho : o.op = .call { callee := .builtin .copy, args := #[s, x], argTypes := #[t, u] }) {vs vx v' : Value} (hs : a.eval s = vs) (hx : a.eval x = vx)
    (hr : (Builtin.copy_ #[t, u] o.type #[vs, vx]).run P w = .ok v' w') (h : K (a.put o.dst v') w') : if Region.wanted o (yielded ops a.tmps) = true then Oper.wp P o a w K Q else E := by
  have hw : Region.wanted o (yielded ops a.tmps) = true := by simp [Region.wanted, hgd]
  rw [if_pos hw]
  unfold Oper.wp execOp
  simp only [ho, resolve, invoke, builtin, Sem.run_bind, Sem.run_pure, Result.andThen_ok, List.map_toArray, List.map_cons, List.map_nil, hs, hx, hr]
  exact h
set_option maxHeartbeats 2000000 in
theorem ecopy_1 {V w : World} {R : List Thing} {p : Addr} {L : SlotsE} {F : List Nat} (H : Own V w (mapT p L F :: R)) (hl : L.length < 1000000) :
    Calls Try.prog 16 #[.pointer (some p)] w fun e w' => ∃ q G, e = .returned (.pointer (some q)) ∧ Own V w' (mapT q L G :: mapT p L F :: R) := by
  obtain ⟨A, B, e, h1, h2⟩ : ∃ A B, p = ⟨A, 0, none⟩ ∧ w.heap[A]? = some (.cells (mapC B L.length (cnt L)) 42 (0, 0)) ∧ w.heap[B]? = some (.cells (cellsE L).toArray 47 (0, 0)) := by
    obtain ⟨A, B, e, _, _, h1, h2⟩ := H.head
    exact ⟨A, B, e, h1, h2⟩
  subst e
  obtain ⟨n, hn⟩ : ∃ n, L.length = n := ⟨_, rfl⟩
  obtain ⟨c, hc⟩ : ∃ c, cnt L = c := ⟨_, rfl⟩
  rw [hn, hc] at h1
  rw [hn] at hl
  have mk := makeE n hl
  have c0 := blk_cell h1 0 (v := .slice (some ⟨B, 0, none⟩) n n) rfl
  have c1 := blk_cell h1 1 (v := .int .i64 (c : Int)) rfl
  have c1b := fun o => kalloc (o := o) c1
  have hB := H.drop
  have H1 := ((H.blk (cellsE (List.replicate n none)).toArray 47).blk (mapC w.heap.size n c) 42).quiet (Wider.refl _).drew
  have hz : (w.alloc (.cells (cellsE (List.replicate n none)).toArray 47)).heap.size = w.heap.size + 1 := by simp
  rw [hz] at H1
  obtain ⟨W, hW⟩ : ∃ W, ((w.alloc (.cells (cellsE (List.replicate n none)).toArray 47)).alloc (.cells (mapC w.heap.size n c) 42)).drew = W := ⟨_, rfl⟩
  have gW : Wider w W := by rw [← hW]; exact ((Wider.refl w).alloc _).alloc _
  have gd := gW.drew
  rw [hW] at H1
  have d0 := wkeep gW c0
  have d1 := blk_cell H1.head 0 (v := .slice (some ⟨w.heap.size, 0, none⟩) n n) rfl
  have H2 := H1.swap.quiet (Wider.refl W).drew
  have lB := (Array.getElem?_eq_some_iff.1 h2).1
  have hrun := run_copy_wide (P := Try.prog) W.drew 40 40 3 47 w.heap.size n 3 n n ⟨B, 0, none⟩ _ 47 (cellsE L) Try.underlying40 (by kernel_rfl) H2.head (by rw [cellsE_length, hn]) (fun j v hj => by
    rw [Addr.add_lit, Nat.zero_add]
    exact blk_cell ((wheap gd lB).trans h2) j (by rw [List.getElem?_toArray]; exact hj)) (by rw [List.size_toArray, cellsE_length, cellsE_length, hn, List.length_replicate]) (cellsE_one L)
  have H3 := (Own.setRow H2 (cellsE L).toArray).swap
  obtain ⟨G, H4⟩ := H3.mapShut hn hc
  clear H1 H2 H3 H h1 h2 hn hc hz gd lB hB
  go_enter Try.func16, Try.ntmps16
  go_upto_region 3 with (fail)
  go_region_law (fail)
  all_goals
    try rw [hW]
    go_upto_region 4 with (fail)
    go_region_law (refine step_copy_e rfl (.tmp 21) (.tmp 25) 40 40 rfl rfl rfl hrun ?_)
    all_goals
      go_wp2
      go_ret
      exact ⟨_, _, rfl, H4⟩
end Go.Proofs.Ytgfdigjnecgliaa
