/- What the calls of package buf do to a buffer that is at hand: contracts, by walks. -/
import Derived.Test.YtlgllgdaodfocaaFAny
import Derived.Test.YtlgllgdaodfocaaBMath
import Derived.Test.YtlgllgdaodfocaaOwn
import Derived.Test.YtlgllgdaodfocaaSCode
import Derived.Test.YtlgllgdaodfocaaSMake
import Derived.Lib.AppendZerosOnto
import Derived.Lib.LazyBuf
import Derived.Laws.IdiomCopy
import Derived.Deep.Upon
import Derived.Deep.RegionLaw
import Derived.BigQuiet
namespace Go.Proofs.Ytlgllgdaodfocaa
set_option linter.unusedVariables false
open Go.RowKit

/-! ### Builtins whose run is known, as steps of a walk -/
theorem wpList_append_run {P : Program} {w w' : World} {ops : Array Oper} {rest : List Oper} {o : Oper} {a : Act} {Q : Exit → Act → World → Prop} (hgd : o.guard = none) (s x : Operand) (t u : TypeId)
    (ho : o.op = .call { callee := .builtin .append, args := #[s, x], argTypes := #[t, u] }) {vs vx v' : Value} (hs : a.eval s = vs) (hx : a.eval x = vx)
    (hr : (Builtin.append_ #[t, u] o.type #[vs, vx]).run P w = .ok v' w') (h : wpList P ops Q rest (a.put o.dst v') w') : wpList P ops Q (o :: rest) a w := by
  refine wpList_plain hgd fun K hK => ?_
  unfold Oper.wp execOp
  simp only [ho, resolve, invoke, builtin, Sem.run_bind, Sem.run_pure, Result.andThen_ok, List.map_toArray, List.map_cons, List.map_nil, hs, hx, hr]
  exact hK _ _ h
theorem wpList_copy_run {P : Program} {w w' : World} {ops : Array Oper} {rest : List Oper} {o : Oper} {a : Act} {Q : Exit → Act → World → Prop} (hgd : o.guard = none) (s x : Operand) (t u : TypeId)
    (ho : o.op = .call { callee := .builtin .copy, args := #[s, x], argTypes := #[t, u] }) {vs vx v' : Value} (hs : a.eval s = vs) (hx : a.eval x = vx)
    (hr : (Builtin.copy_ #[t, u] o.type #[vs, vx]).run P w = .ok v' w') (h : wpList P ops Q rest (a.put o.dst v') w') : wpList P ops Q (o :: rest) a w := by
  refine wpList_plain hgd fun K hK => ?_
  unfold Oper.wp execOp
  simp only [ho, resolve, invoke, builtin, Sem.run_bind, Sem.run_pure, Result.andThen_ok, List.map_toArray, List.map_cons, List.map_nil, hs, hx, hr]
  exact hK _ _ h
theorem step_copy_run {P : Program} {w w' : World} {ops : Array Oper} {o : Oper} {a : Act} {K : Act → World → Prop} {Q : Exit → Act → World → Prop} {E : Prop} (hgd : o.guard = none) (s x : Operand) (t u : TypeId)
    (ho : o.op = .call { callee := .builtin .copy, args := #[s, x], argTypes := #[t, u] }) {vs vx v' : Value} (hs : a.eval s = vs) (hx : a.eval x = vx)
    (hr : (Builtin.copy_ #[t, u] o.type #[vs, vx]).run P w = .ok v' w') (h : K (a.put o.dst v') w') : if Region.wanted o (yielded ops a.tmps) = true then Oper.wp P o a w K Q else E := by
  have hw : Region.wanted o (yielded ops a.tmps) = true := by simp [Region.wanted, hgd]
  rw [if_pos hw]
  unfold Oper.wp execOp
  simp only [ho, resolve, invoke, builtin, Sem.run_bind, Sem.run_pure, Result.andThen_ok, List.map_toArray, List.map_cons, List.map_nil, hs, hx, hr]
  exact h

/-! ### A buffer -/
/-- A buffer whose struct lies in block b, and its bytes at the head of block B, of capacity cap. -/
structure BufIn (w : World) (b B cap : Nat) (s : ByteArray) : Prop where
  ne : b ≠ B
  small : s.size ≤ 9216
  room : s.size ≤ cap
  cell : w.cell? ⟨b, 0, none⟩ = some (.slice (some ⟨B, 0, none⟩) s.size cap)
  free : w.frozen? ⟨b, 0, none⟩ = false
  row : Bts w B s.size (fun j => (byteS s j : Int))
  lt : b < w.heap.size ∧ B < w.heap.size
theorem BufIn.heap {W w : World} {b B cap : Nat} {s : ByteArray} (h : BufIn W b B cap s) (h1 : w.heap[b]? = W.heap[b]?) (h2 : w.heap[B]? = W.heap[B]?) : BufIn w b B cap s where
  ne := h.ne
  small := h.small
  room := h.room
  cell := (cell_heap h1).trans h.cell
  free := (frozen_heap h1).trans h.free
  row := ⟨fun j hj => (cell_heap h2).trans (h.row.cell j hj), fun j hj => (frozen_heap h2).trans (h.row.free j hj)⟩
  lt := by
    have k1 : W.heap[b]? ≠ none := by have := h.lt.1; simp; omega
    have k2 : W.heap[B]? ≠ none := by have := h.lt.2; simp; omega
    rw [← h1] at k1; rw [← h2] at k2
    simp at k1 k2; omega
theorem BufIn.on {W w : World} {b B cap : Nat} {s : ByteArray} (h : BufIn W b B cap s) (g : Wider W w) : BufIn w b B cap s := h.heap (wheap g h.lt.1) (wheap g h.lt.2)
/-- The buffer at p has the text s and owns the blocks F. -/
def BufAt (w : World) (p : Addr) (s : ByteArray) (F : List Nat) : Prop := ∃ b B cap, p = ⟨b, 0, none⟩ ∧ F = [b, B] ∧ BufIn w b B cap s
abbrev bufT (p : Addr) (s : ByteArray) (F : List Nat) : Thing := (F, fun w => BufAt w p s F)
theorem bufAt_stable (p : Addr) (s : ByteArray) (F : List Nat) : (bufT p s F).Stable := by
  rintro W w ⟨b, B, cap, rfl, rfl, h⟩ k
  exact ⟨b, B, cap, rfl, rfl, h.heap (k b (by simp)) (k B (by simp))⟩
theorem bufAt_size {w : World} {p : Addr} {s : ByteArray} {F : List Nat} (h : BufAt w p s F) : s.size ≤ 9216 := by
  obtain ⟨_, _, _, _, _, h⟩ := h; exact h.small

/-! ### Rows and texts -/
theorem byteS_nums (m : Nat) (v : Nat → Nat) (hv : ∀ j, v j < 256) (j : Nat) (hj : j < m) : byteS (strOfNums ((List.range m).map fun j => ((v j : Nat) : Int))) j = v j := by
  unfold byteS
  rw [strOfNums_data, List.map_map, List.getD_eq_getElem?_getD, List.getElem?_map, List.getElem?_range hj]
  have := hv j
  show (UInt8.ofNat (((v j : Nat) : Int).toNat)).toNat = v j
  rw [Int.toNat_natCast, UInt8.toNat_ofNat']; omega
theorem nums_text {T : ByteArray} (m : Nat) (v : Nat → Nat) (hv : ∀ j, v j < 256) (hm : T.size = m) (h : ∀ j, j < m → byteS T j = v j) : strOfNums ((List.range m).map fun j => ((v j : Nat) : Int)) = T := by
  refine text_ext ?_ fun j hj => ?_
  · rw [strOfNums_size, hm]; simp
  · rw [strOfNums_size] at hj
    have hj' : j < m := by simpa using hj
    rw [byteS_nums m v hv j hj', h j hj']
/-- Bytes of a row, from a place on, as a text. -/
theorem conv_part {w : World} {B n : Nat} {s : ByteArray} (h : Bts w B n (fun j => (byteS s j : Int))) (a m cap : Nat) (hm : a + m ≤ n) (hn : n ≤ s.size) :
    (convert 23 9 (.slice (some ⟨B, a, none⟩) m cap)).run Try.prog w = .ok (.string (s.extract a (a + m))) w := by
  have c := run_convert_bytes_arg (P := Try.prog) w 23 5 Try.underlying23 Try.underlying5 B a m cap ((List.range m).map fun j => ((byteS s (a + j) : Nat) : Int)) (by simp) (fun i hi => by
    rw [h.cell (a + i) (by omega), List.getD_eq_getElem?_getD, List.getElem?_map, List.getElem?_range hi]; rfl) 9 Try.underlying9
  rw [nums_text m (fun j => byteS s (a + j)) (fun j => byteS_lt s _) (T := s.extract a (a + m)) (by rw [ext_size _ _ _ (by omega)]; omega) (fun j hj => by rw [byteS_ext _ _ _ _ (by omega), if_pos (by omega)])] at c
  exact c
theorem ext_all (s : ByteArray) : s.extract 0 s.size = s := by
  refine text_ext (by rw [ext_size _ _ _ (Nat.le_refl _)]; omega) fun j hj => ?_
  rw [ext_size _ _ _ (Nat.le_refl _)] at hj
  rw [byteS_ext _ _ _ _ (Nat.le_refl _), if_pos (by omega), Nat.zero_add]
theorem conv_all {w : World} {b B cap : Nat} {s : ByteArray} (h : BufIn w b B cap s) (c : Nat) :
    (convert 23 9 (.slice (some ⟨B, 0, none⟩) s.size c)).run Try.prog w = .ok (.string s) w := by
  have e := conv_part h.row 0 s.size c (by omega) (Nat.le_refl _)
  rw [Nat.zero_add, ext_all] at e
  exact e

/-! ### New, Len, Text -/
theorem new1b (w : World) (v : Value) (t : TypeId) : (w.alloc (.cells #[v] t)).cell? ⟨w.heap.size, 0, none⟩ = some v ∧ (w.alloc (.cells #[v] t)).frozen? ⟨w.heap.size, 0, none⟩ = false := by constructor <;> simp [go_sem]
theorem bnew_a (s : ByteArray) (hs : s.size ≤ 9216) (w : World) :
    Calls Try.prog 12 #[.string s] w fun e w' => ∃ p F, e = .returned (.tuple #[.pointer (some p), .int .i64 0]) ∧ Wider w w' ∧ BufAt w' p s F ∧ ∀ i ∈ F, w.heap.size ≤ i ∧ i < w'.heap.size := by
  have hcv := run_bytes_of_string (P := Try.prog) w 9 23 5 s Try.underlying9 Try.underlying23 Try.underlying5
  obtain ⟨cap, hcap⟩ : ∃ c : Nat, grownCap w s.size 0 5 = c := ⟨_, rfl⟩
  have hge := grownCap_ge w s.size 0 5
  rw [hcap] at hcv hge
  have hr := Bts.text w s cap 5
  go_enter Try.func12, Try.ntmps12
  go_wp2
  simp [bodyPost, results, Try.results12, go_sem]
  have hB : (w.alloc (.cells (bytesRow s cap) 5 ((bytesRow s cap).size, (bytesRow s cap).size + 1))).heap.size = w.heap.size + 1 := by simp
  have n1 := new1b (w.alloc (.cells (bytesRow s cap) 5 ((bytesRow s cap).size, (bytesRow s cap).size + 1))) (.slice (some ⟨w.heap.size, 0, none⟩) s.size cap) 63
  rw [hB] at n1
  refine ⟨((Wider.refl w).alloc _).alloc _, [w.heap.size + 1, w.heap.size], ⟨w.heap.size + 1, w.heap.size, cap, rfl, rfl, ?_⟩, by simp; omega⟩
  have row := (hr.on ((Wider.refl _).alloc (.cells #[.slice (some ⟨w.heap.size, 0, none⟩) s.size cap] 63))).congr (u := fun j => (byteS s j : Int)) (fun j _ => rfl)
  exact ⟨by omega, hs, hge, n1.1, n1.2, ⟨row.cell, row.free⟩, by simp; omega⟩
theorem bnew_long (s : ByteArray) (hs : 9216 < s.size) (hm : s.size ≤ 9223372036854775807) (w : World) :
    Calls Try.prog 12 #[.string s] w fun e w' => e = .returned (.tuple #[.pointer none, .int .i64 5]) ∧ Wider w w' := by
  go_enter Try.func12, Try.ntmps12
  go_wp2
  simp [bodyPost, results, Try.results12, go_sem]
  exact Wider.refl w
theorem blen_a {w : World} {p : Addr} {s : ByteArray} {F : List Nat} (h : BufAt w p s F) :
    Calls Try.prog 19 #[.pointer (some p)] w fun e w' => e = .returned (.int .i64 (s.size : Int)) ∧ Wider w w' := by
  obtain ⟨b, B, cap, rfl, rfl, h⟩ := h
  have c := h.cell
  go_enter Try.func19, Try.ntmps19
  go_wp2
  go_ret
  exact ⟨rfl, Wider.refl w⟩
theorem btext_a {w : World} {p : Addr} {s : ByteArray} {F : List Nat} (h : BufAt w p s F) :
    Calls Try.prog 18 #[.pointer (some p)] w fun e w' => e = .returned (.string s) ∧ Wider w w' := by
  obtain ⟨b, B, cap, rfl, rfl, h⟩ := h
  have c := h.cell
  have hcv := conv_all h cap
  go_enter Try.func18, Try.ntmps18
  go_wp2
  go_ret
  exact ⟨rfl, Wider.refl w⟩

/-! ### check -/
theorem bcheck_a {w : World} {b B cap : Nat} {s : ByteArray} (h : BufIn w b B cap s) (at_ n : Int) {r : Int} (o0 : -9223372036854775808 ≤ at_) (o1 : at_ ≤ 9223372036854775807) (w0 : -9223372036854775808 ≤ n) (w1 : n ≤ 9223372036854775807) (hr : cutE s.size at_ n = r) :
    Calls Try.prog 29 #[.pointer (some ⟨b, 0, none⟩), .int .i64 at_, .int .i64 n] w fun e w' => e = .returned (.int .i64 r) ∧ w' = w := by
  have c := h.cell
  have z := h.small
  by_cases c1 : at_ < 0
  · obtain rfl : r = 1 := by rw [← hr]; unfold cutE; rw [if_pos (by omega)]
    clear hr
    go_enter Try.func29, Try.ntmps29
    go_wp2
    go_ret
    exact ⟨rfl, rfl⟩
  · by_cases c2 : n < 0
    · obtain rfl : r = 1 := by rw [← hr]; unfold cutE; rw [if_pos (by omega)]
      clear hr
      go_enter Try.func29, Try.ntmps29
      go_wp2
      go_ret
      exact ⟨rfl, rfl⟩
    · by_cases c3 : (s.size : Int) - at_ < n
      · obtain rfl : r = 4 := by rw [← hr]; unfold cutE; rw [if_neg (by omega), if_pos (by omega)]
        clear hr
        go_enter Try.func29, Try.ntmps29
        go_wp2
        go_ret
        exact ⟨rfl, rfl⟩
      · obtain rfl : r = 0 := by rw [← hr]; unfold cutE; rw [if_neg (by omega), if_neg (by omega)]
        clear hr
        go_enter Try.func29, Try.ntmps29
        go_wp2
        go_ret
        exact ⟨rfl, rfl⟩

/-! ### Of no buffer -/
theorem bcheck_nil (at_ n : Int) (w : World) : Calls Try.prog 29 #[.pointer none, .int .i64 at_, .int .i64 n] w fun e w' => e = .returned (.int .i64 2) ∧ w' = w := by
  go_enter Try.func29, Try.ntmps29
  go_wp2
  go_ret
  exact ⟨rfl, rfl⟩
theorem bnil_get (off width : Int) (w : World) : Calls Try.prog 16 #[.pointer none, .int .i64 off, .int .i64 width] w fun e w' => e = .returned (.tuple #[.agg #[.int .u64 0, .int .u64 0], .int .i64 2]) ∧ Wider w w' := by
  go_enter Try.func16, Try.ntmps16
  go_wp2
  simp [bodyPost, results, Try.results16, go_sem]
  exact (Wider.refl w).alloc _
theorem bnil_sum (at_ n : Int) (w : World) : Calls Try.prog 17 #[.pointer none, .int .i64 at_, .int .i64 n] w fun e w' => e = .returned (.tuple #[.int .u16 0, .int .i64 2]) ∧ Wider w w' := by
  go_enter Try.func17, Try.ntmps17
  go_wp2_with (go_at_call 29; ((with_reducible refine (bcheck_nil at_ n _).mono ?_); rintro e w2 ⟨rfl, rfl⟩))
  simp [bodyPost, results, Try.results17, go_sem]
  exact Wider.refl _
theorem bnil_put (off width a b : Int) (w : World) : Calls Try.prog 15 #[.pointer none, .int .i64 off, .int .i64 width, .agg #[.int .u64 a, .int .u64 b]] w fun e w' => e = .returned (.int .i64 2) ∧ Wider w w' := by
  go_enter Try.func15, Try.ntmps15
  go_wp2
  go_ret
  exact ⟨rfl, (Wider.refl w).alloc _⟩
theorem bnil_ins (at_ n : Int) (w : World) : Calls Try.prog 13 #[.pointer none, .int .i64 at_, .int .i64 n] w fun e w' => e = .returned (.int .i64 2) ∧ Wider w w' := by
  go_enter Try.func13, Try.ntmps13
  go_wp2
  go_ret
  exact ⟨rfl, Wider.refl w⟩
theorem bnil_del (at_ n : Int) (w : World) : Calls Try.prog 14 #[.pointer none, .int .i64 at_, .int .i64 n] w fun e w' => e = .returned (.int .i64 2) ∧ Wider w w' := by
  go_enter Try.func14, Try.ntmps14
  go_wp2_with (go_at_call 29; ((with_reducible refine (bcheck_nil at_ n _).mono ?_); rintro e w2 ⟨rfl, rfl⟩))
  go_ret
  exact ⟨rfl, Wider.refl _⟩
theorem bnil_len (w : World) : Calls Try.prog 19 #[.pointer none] w fun e w' => e = .returned (.int .i64 0) ∧ Wider w w' := by
  go_enter Try.func19, Try.ntmps19
  go_wp2
  go_ret
  exact ⟨rfl, Wider.refl w⟩
theorem bnil_text (w : World) : Calls Try.prog 18 #[.pointer none] w fun e w' => e = .returned (.string ⟨#[]⟩) ∧ Wider w w' := by
  go_enter Try.func18, Try.ntmps18
  go_wp2
  go_ret
  exact ⟨rfl, Wider.refl w⟩
theorem bnil_copy (w : World) : Calls Try.prog 20 #[.pointer none] w fun e w' => e = .returned (.pointer none) ∧ Wider w w' := by
  go_enter Try.func20, Try.ntmps20
  go_wp2
  go_ret
  exact ⟨rfl, Wider.refl w⟩

/-! ### Get, Sum -/
set_option maxHeartbeats 1000000 in
theorem bget_a {w : World} {p : Addr} {s : ByteArray} {F : List Nat} (h : BufAt w p s F) (off width : Int) {a b r : Int} (o0 : -9223372036854775808 ≤ off) (o1 : off ≤ 9223372036854775807) (w0 : -9223372036854775808 ≤ width) (w1 : width ≤ 9223372036854775807) (hr : GetR s off width a b r) :
    Calls Try.prog 16 #[.pointer (some p), .int .i64 off, .int .i64 width] w fun e w' => e = .returned (.tuple #[.agg #[.int .u64 a, .int .u64 b], .int .i64 r]) ∧ Wider w w' := by
  obtain ⟨b0, B, cap, rfl, rfl, h⟩ := h
  have h' := h.on ((Wider.refl w).alloc (.cells #[.int .u64 0, .int .u64 0] 32))
  have c := h'.cell
  have hcv := conv_all h' cap
  have d := new2 w (.int .u64 0) (.int .u64 0) 32
  have z := h.small
  go_enter Try.func16, Try.ntmps16
  go_wp2_with (go_at_call 31; ((with_reducible refine (get_g s off width (by omega) o0 o1 w0 w1 hr _).mono ?_); rintro e w2 ⟨rfl, g2⟩; have c0 := gkeep g2 d.1; have c1 := gkeep g2 d.2.1; have f0 := gfree g2 d.2.2.1; have f1 := gfree g2 d.2.2.2))
  have r0 : ((w2.setCell ⟨w.heap.size, 0, none⟩ (.int .u64 a)).setCell ⟨w.heap.size, 1, none⟩ (.int .u64 b)).cell? ⟨w.heap.size, 0, none⟩ = some (.int .u64 a) := by rw [cother (by simp)]; exact csame c0
  have r1 : ((w2.setCell ⟨w.heap.size, 0, none⟩ (.int .u64 a)).setCell ⟨w.heap.size, 1, none⟩ (.int .u64 b)).cell? ⟨w.heap.size, 1, none⟩ = some (.int .u64 b) := csame (u := .int .u64 0) (by rw [cother (by simp)]; exact c1)
  simp [bodyPost, results, Try.results16, go_sem, r0, r1]
  exact ((((Wider.refl w).alloc _).grown g2).setCell (Nat.le_refl _) _).setCell (Nat.le_refl _) _
set_option maxHeartbeats 1000000 in
theorem bsum_a {w : World} {p : Addr} {s : ByteArray} {F : List Nat} (h : BufAt w p s F) (at_ n : Int) {r : Int} {v : Nat} (o0 : -9223372036854775808 ≤ at_) (o1 : at_ ≤ 9223372036854775807) (w0 : -9223372036854775808 ≤ n) (w1 : n ≤ 9223372036854775807) (hr : BSumR s at_ n v r) :
    Calls Try.prog 17 #[.pointer (some p), .int .i64 at_, .int .i64 n] w fun e w' => e = .returned (.tuple #[.int .u16 (v : Int), .int .i64 r]) ∧ Wider w w' := by
  obtain ⟨b, B, cap, rfl, rfl, h⟩ := h
  have z := h.small
  have ck := bcheck_a h at_ n o0 o1 w0 w1 hr.err
  by_cases e0 : r = 0
  · subst e0
    obtain ⟨a, m, rfl, rfl, ham⟩ := cutE_ok hr.err
    have hv := hr.ok rfl
    rw [Int.toNat_natCast, Int.toNat_natCast] at hv
    obtain ⟨T, hT⟩ : ∃ T, s.extract a (a + m) = T := ⟨_, rfl⟩
    have hTz : T.size ≤ 9216 := by rw [← hT, ext_size _ _ _ ham]; omega
    have c := h.cell
    have rm := h.room
    have i0 : (0 : Int) ≤ (a : Int) := by omega
    have i1 : (a : Int) ≤ (a : Int) + (m : Int) := by omega
    have i2 : (a : Int) + (m : Int) ≤ (cap : Int) := by omega
    have hW : IntKind.i64.wrap ((a : Int) + (m : Int)) = (a : Int) + (m : Int) := by rw [IntWalk.i64_in _ (by omega)]
    have t1 : ((a : Int) + (m : Int)).toNat = a + m := by omega
    have t2 : a + m - a = m := by omega
    have za := ssum_c (some ⟨w.heap.size, 0, none⟩) 1 1 [T] (r := v) (w.alloc (.cells #[.string T] 9)) (StrsAt.new w [T] 9 #[.string T] rfl) rfl (by decide) (by rw [joinL_one]; omega) (by rw [joinL_one, ← hT]; exact hv)
    have hcv := conv_part h.row a m (cap - a) ham (Nat.le_refl _)
    rw [hT] at hcv
    have hT0 : m = 0 → s.extract 0 (0 + m) = T := by
      rintro rfl
      rw [← hT]
      exact text_ext (by rw [ext_size _ _ _ (by omega), ext_size _ _ _ ham]; omega) fun j hj => by rw [ext_size _ _ _ (by omega)] at hj; omega
    clear hT hv hr
    by_cases q : cap = a
    · subst q
      have hcv0 : (convert 23 9 (.slice (some ⟨B, 0, none⟩) m 0)).run Try.prog w = .ok (.string T) w := by
        have e := conv_part h.row 0 m 0 (by omega) (Nat.le_refl _)
        rw [hT0 (by omega)] at e
        exact e
      clear hcv hT0
      go_enter Try.func17, Try.ntmps17
      go_wp2_with (first
        | (go_at_call 29; ((with_reducible refine ck.mono ?_); rintro e w2 ⟨rfl, rfl⟩))
        | (go_at_call 27; ((with_reducible refine za.mono ?_); rintro e w2 ⟨rfl, g2⟩)))
      simp [bodyPost, results, Try.results17, go_sem]
      exact ((Wider.refl _).alloc _).trans g2
    · clear hT0
      go_enter Try.func17, Try.ntmps17
      go_wp2_with (first
        | (go_at_call 29; ((with_reducible refine ck.mono ?_); rintro e w2 ⟨rfl, rfl⟩))
        | (go_at_call 27; ((with_reducible refine za.mono ?_); rintro e w2 ⟨rfl, g2⟩)))
      simp [bodyPost, results, Try.results17, go_sem]
      exact ((Wider.refl _).alloc _).trans g2
  · obtain rfl := hr.bad e0
    have e1 : (r != 0) = true := by simpa using e0
    clear hr
    go_enter Try.func17, Try.ntmps17
    go_wp2_with (go_at_call 29; ((with_reducible refine ck.mono ?_); rintro e w2 ⟨rfl, rfl⟩))
    simp [bodyPost, results, Try.results17, go_sem]
    exact Wider.refl _

/-! ### Rows that are written -/
theorem Bts.cells {w : World} {B n o : Nat} {v u : Nat → Int} {cs : List Value} (h : Bts w B n v) (hfit : o + cs.length ≤ n)
    (e1 : ∀ j, j < cs.length → cs[j]? = some (.int .u8 (u (o + j)))) (e2 : ∀ j, j < n → j < o ∨ o + cs.length ≤ j → u j = v j) : Bts (w.setCells B o cs) B n u where
  cell j hj := by
    by_cases q : j < o ∨ o + cs.length ≤ j
    · rw [World.cell?_setCells_out B cs o w ⟨B, j, none⟩ (fun _ _ => q), h.cell j hj, e2 j hj q]
    · have k : j - o < cs.length := by omega
      have r := World.cell?_setCells_in B cs o w (fun i hi => by rw [h.cell (o + i) (by omega)]; rfl) (j - o) k
      rw [show o + (j - o) = j by omega] at r
      rw [r, ← List.getElem?_eq_getElem k, e1 (j - o) k, show o + (j - o) = j by omega]
  free j hj := by rw [World.frozen?_setCells]; exact h.free j hj
theorem setCells_but (w : World) (B o : Nat) (cs : List Value) : WBut [B] w (w.setCells B o cs) where
  os := World.os_setCells w B o cs
  out := World.output_setCells w B o cs
  size := (World.keptBut_setCells B (may := fun _ => True) cs o w (fun _ _ => trivial)).size
  heap i hi hF := World.heap_setCells_other w B o cs hi (by simpa using hF)
theorem WBut.wide {F G : List Nat} {W w : World} (h : WBut F W w) (k : ∀ i ∈ F, i ∈ G) : WBut G W w := ⟨h.os, h.out, h.size, fun i hi hG => h.heap i hi (fun m => hG (k i m))⟩
/-- The bytes of a text as cells. -/
def cellsB (s : ByteArray) : List Value := s.data.toList.map fun x => Value.int .u8 (x.toNat : Int)
theorem cellsB_length (s : ByteArray) : (cellsB s).length = s.size := by unfold cellsB; simp
theorem cellsB_at (s : ByteArray) (j : Nat) (hj : j < s.size) : (cellsB s)[j]? = some (.int .u8 (byteS s j : Int)) := by
  unfold cellsB byteS
  have k : j < s.data.toList.length := by simpa using hj
  rw [List.getElem?_map, List.getD_eq_getElem?_getD, List.getElem?_eq_getElem k]; rfl
theorem cellsB_one (s : ByteArray) : ∀ v ∈ cellsB s, v.oneCell' = true := by
  intro v hv
  obtain ⟨x, _, rfl⟩ := List.mem_map.1 hv
  rfl

theorem BufIn.write {w : World} {b B cap o : Nat} {s T : ByteArray} {cs : List Value} (h : BufIn w b B cap s) (hz : T.size = s.size) (hfit : o + cs.length ≤ s.size)
    (e1 : ∀ j, j < cs.length → cs[j]? = some (.int .u8 (byteS T (o + j) : Int))) (e2 : ∀ j, j < s.size → j < o ∨ o + cs.length ≤ j → byteS T j = byteS s j) : BufIn (w.setCells B o cs) b B cap T where
  ne := h.ne
  small := by rw [hz]; exact h.small
  room := by rw [hz]; exact h.room
  cell := by rw [World.cell?_setCells_out B cs o w ⟨b, 0, none⟩ (fun e => absurd e h.ne), hz]; exact h.cell
  free := by rw [World.frozen?_setCells]; exact h.free
  row := by rw [hz]; exact h.row.cells hfit e1 (fun j hj q => by rw [e2 j hj q])
  lt := by have g := (setCells_but w B o cs).size; have := h.lt; omega
theorem buf_stay {w w' : World} {b B cap : Nat} {T : ByteArray} (g : WBut [b, B] w w') (h : BufIn w' b B cap T) : ∃ F', WBut [b, B] w w' ∧ BufAt w' ⟨b, 0, none⟩ T F' ∧ ∀ i ∈ F', (i ∈ [b, B] ∨ w.heap.size ≤ i) ∧ i < w'.heap.size :=
  ⟨[b, B], g, ⟨b, B, cap, rfl, rfl, h⟩, fun i hi => ⟨.inl hi, by
    have := h.lt
    simp at hi; omega⟩⟩

/-! ### Put -/
set_option maxHeartbeats 1000000 in
theorem bput_a {w : World} {p : Addr} {s : ByteArray} {F : List Nat} (h : BufAt w p s F) (off width : Int) (x : BitVec 128) {a b r : Int} {T : ByteArray} (o0 : -9223372036854775808 ≤ off) (o1 : off ≤ 9223372036854775807) (w0 : -9223372036854775808 ≤ width) (w1 : width ≤ 9223372036854775807) (hx : IsW a b x) (hr : BPutR s off width x T r) :
    Calls Try.prog 15 #[.pointer (some p), .int .i64 off, .int .i64 width, .agg #[.int .u64 a, .int .u64 b]] w fun e w' => e = .returned (.int .i64 r) ∧ ∃ F', WBut F w w' ∧ BufAt w' p T F' ∧ ∀ i ∈ F', (i ∈ F ∨ w.heap.size ≤ i) ∧ i < w'.heap.size := by
  obtain ⟨b0, B, cap, rfl, rfl, h⟩ := h
  have z := h.small
  have gV : Wider w (w.alloc (.cells #[.int .u64 a, .int .u64 b] 32)) := (Wider.refl w).alloc _
  have d := new2 w (.int .u64 a) (.int .u64 b) 32
  have d0 := d.1
  have d1 := d.2.1
  have hV := h.on gV
  obtain ⟨V, hVe⟩ : ∃ V, V = w.alloc (.cells #[.int .u64 a, .int .u64 b] 32) := ⟨_, rfl⟩
  have hVd : BufIn V.drew b0 B cap s := by rw [hVe]; exact hV.heap rfl rfl
  have c := hVd.cell
  have hcv := conv_all hVd cap
  rw [hVe] at c hcv
  by_cases e0 : r = 0
  · subst e0
    have hp : PutR s off width x T 0 := ⟨hr.err, fun _ => hr.ok rfl, fun k => absurd rfl k⟩
    have hz := hr.size
    have pg := fun W => put_g s off width x (by omega) o0 o1 w0 w1 hx hp W
    have hrun : ∀ W : World, BufIn W b0 B cap s → (Builtin.copy_ #[23, 9] 3 #[.slice (some ⟨B, 0, none⟩) s.size cap, .string T]).run Try.prog W = .ok (goInt T.size) (W.setCells B 0 (cellsB T)) := fun W k =>
      run_copy_string W 23 9 3 5 B 0 s.size cap T Try.underlying23 (fun _ => by kernel_rfl) (by omega) (fun j hj => by rw [Nat.zero_add, k.row.cell j (by omega)]; rfl) (fun j hj => by rw [Nat.zero_add]; exact k.row.free j (by omega))
    clear hr hp d
    go_enter Try.func15, Try.ntmps15
    go_wp2
    go_region_with (go_at_call 30; ((with_reducible refine (pg _).mono ?_); rintro e w2 ⟨rfl, g2⟩; have h2 := (hVe ▸ hVd).on g2; have c2 := h2.cell; have q2 := hrun _ h2))
    all_goals
      go_wp2_with (at_builtin; refine wpList_copy_run rfl (.tmp 30) (.tmp 31) 23 9 rfl rfl rfl q2 ?_)
      go_ret
      refine ⟨rfl, buf_stay (cap := cap) ((wider_but (gV.trans g2) (setCells_but w2 B 0 (cellsB T))).wide (by simp)) (h2.write hz (by rw [cellsB_length]; omega) (fun j hj => by rw [cellsB_length] at hj; rw [Nat.zero_add]; exact cellsB_at T j hj) (fun j hj q => by rw [cellsB_length] at q; omega))⟩
  · obtain rfl := hr.bad e0
    have hp : PutR T off width x ⟨#[]⟩ r := ⟨hr.err, fun k => absurd k e0, fun _ => rfl⟩
    have pg := fun W => put_g T off width x (by omega) o0 o1 w0 w1 hx hp W
    have e1 : (r == 0) = false := by simpa using e0
    clear hr hp d
    go_enter Try.func15, Try.ntmps15
    go_wp2
    go_region_with (go_at_call 30; ((with_reducible refine (pg _).mono ?_); rintro e w2 ⟨rfl, g2⟩; have h2 := (hVe ▸ hVd).on g2))
    all_goals
      go_wp2
      go_ret
      exact ⟨rfl, buf_stay (cap := cap) ((gV.trans g2).but _) h2⟩

/-! ### Copy -/
set_option maxHeartbeats 1000000 in
theorem bcopy_a {w : World} {p : Addr} {s : ByteArray} {F : List Nat} (h : BufAt w p s F) :
    Calls Try.prog 20 #[.pointer (some p)] w fun e w' => ∃ q G, e = .returned (.pointer (some q)) ∧ Wider w w' ∧ BufAt w' q s G ∧ ∀ i ∈ G, w.heap.size ≤ i ∧ i < w'.heap.size := by
  obtain ⟨b, B, cap, rfl, rfl, h⟩ := h
  have z := h.small
  have c := h.cell
  have hmk := makeN s.size (by omega) w
  have hB : (w.alloc (.cells (zerosN s.size) 5)).heap.size = w.heap.size + 1 := by simp
  have n1 := new1b (w.alloc (.cells (zerosN s.size) 5)) (.slice (some ⟨w.heap.size, 0, none⟩) s.size s.size) 63
  rw [hB] at n1
  have row := (Bts.made w s.size).on ((Wider.refl _).alloc (.cells #[.slice (some ⟨w.heap.size, 0, none⟩) s.size s.size] 63))
  have g : Wider w ((w.alloc (.cells (zerosN s.size) 5)).alloc (.cells #[.slice (some ⟨w.heap.size, 0, none⟩) s.size s.size] 63)).drew := ((Wider.refl w).alloc _).alloc _
  obtain ⟨V, hV⟩ : ∃ V, V = ((w.alloc (.cells (zerosN s.size) 5)).alloc (.cells #[.slice (some ⟨w.heap.size, 0, none⟩) s.size s.size] 63)).drew := ⟨_, rfl⟩
  have hs : BufIn V b B cap s := hV ▸ h.on g
  have rV : Bts V w.heap.size s.size (fun _ => 0) := by rw [hV]; exact ⟨row.cell, row.free⟩
  have cV : V.cell? ⟨w.heap.size + 1, 0, none⟩ = some (.slice (some ⟨w.heap.size, 0, none⟩) s.size s.size) := by rw [hV]; exact n1.1
  have fV : V.frozen? ⟨w.heap.size + 1, 0, none⟩ = false := by rw [hV]; exact n1.2
  have sV := hs.cell
  have rowS : ∀ j, j < s.size → V.cell? ⟨B, j, none⟩ = some (.int .u8 (byteS s j : Int)) := hs.row.cell
  have hrun := run_copy_cells (P := Try.prog) V 23 23 3 5 w.heap.size 0 s.size s.size ⟨B, 0, none⟩ s.size cap (cellsB s) Try.underlying23 (by kernel_rfl) (by rw [cellsB_length]; exact (Nat.min_self _).symm) (fun j v hj => by
      have l : j < s.size := by rw [← cellsB_length s]; exact (List.getElem?_eq_some_iff.1 hj).1
      rw [cellsB_at s j l] at hj
      rw [Addr.add_lit, Nat.zero_add, rowS j l]; exact hj) (fun j hj => by rw [cellsB_length] at hj; rw [Nat.zero_add, rV.cell j hj]; rfl) (fun j hj => by rw [cellsB_length] at hj; rw [Nat.zero_add]; exact rV.free j hj) (cellsB_one s)
  have hfin : BufIn (V.setCells w.heap.size 0 (cellsB s)) (w.heap.size + 1) w.heap.size s.size s := by
    refine ⟨by omega, h.small, Nat.le_refl _, ?_, by rw [World.frozen?_setCells]; exact fV, rV.cells (by rw [cellsB_length]; omega) (fun j hj => by rw [cellsB_length] at hj; rw [Nat.zero_add]; exact cellsB_at s j hj) (fun j hj q => by rw [cellsB_length] at q; omega), ?_⟩
    · rw [World.cell?_setCells_out _ _ _ _ ⟨w.heap.size + 1, 0, none⟩ (fun e => by simp at e)]; exact cV
    · have g := (setCells_but V w.heap.size 0 (cellsB s)).size
      have e : V.heap.size = w.heap.size + 1 + 1 := by rw [hV]; simp
      omega
  have gW : Wider w (V.setCells w.heap.size 0 (cellsB s)) := (setCells_but V w.heap.size 0 (cellsB s)).wider (hV ▸ g) (by simp)
  rw [hV] at cV fV sV hrun hfin gW
  clear rowS rV hs
  go_enter Try.func20, Try.ntmps20
  go_wp2
  go_region_law (refine step_copy_run rfl (.tmp 17) (.tmp 21) 23 23 rfl rfl rfl hrun ?_)
  all_goals
    go_wp2
    go_ret
    exact ⟨⟨w.heap.size + 1, 0, none⟩, [w.heap.size + 1, w.heap.size], rfl, gW, ⟨w.heap.size + 1, w.heap.size, s.size, rfl, rfl, hfin⟩, fun i hi => by have := hfin.lt; simp only [List.mem_cons, List.not_mem_nil, or_false] at hi; omega⟩

/-! ### Delete -/
theorem del_end {w1 : World} {b B cap a m : Nat} {s : ByteArray} {v : Value} (ne : b ≠ B) (hs : s.size ≤ 9216) (hc : s.size ≤ cap) (ham : a + m ≤ s.size) (c : w1.cell? ⟨b, 0, none⟩ = some v) (f : w1.frozen? ⟨b, 0, none⟩ = false)
    (row : Bts w1 B s.size (fun j => if j < s.size - m then (byteS (delT s a m) j : Int) else (byteS s j : Int))) (lt : b < w1.heap.size ∧ B < w1.heap.size) :
    BufIn (w1.setCell ⟨b, 0, none⟩ (.slice (some ⟨B, 0, none⟩) (s.size - m) cap)) b B cap (delT s a m) where
  ne := ne
  small := by rw [delT_size s a m ham]; omega
  room := by rw [delT_size s a m ham]; omega
  cell := by rw [delT_size s a m ham]; exact csame c
  free := (World.frozen?_setCell _ _ _ _).trans f
  row := by
    rw [delT_size s a m ham]
    refine ⟨fun j hj => ?_, fun j hj => (World.frozen?_setCell _ _ _ _).trans (row.free j (by omega))⟩
    rw [cother (by intro q; injection q with q1; exact ne q1), row.cell j (by omega), if_pos hj]
  lt := by simpa [World.setCell] using lt
set_option maxHeartbeats 2000000 in
theorem bdel_a {w : World} {p : Addr} {s : ByteArray} {F : List Nat} (h : BufAt w p s F) (at_ n : Int) {r : Int} {T : ByteArray} (o0 : -9223372036854775808 ≤ at_) (o1 : at_ ≤ 9223372036854775807) (w0 : -9223372036854775808 ≤ n) (w1 : n ≤ 9223372036854775807) (hr : DelR s at_ n T r) :
    Calls Try.prog 14 #[.pointer (some p), .int .i64 at_, .int .i64 n] w fun e w' => e = .returned (.int .i64 r) ∧ ∃ F', WBut F w w' ∧ BufAt w' p T F' ∧ ∀ i ∈ F', (i ∈ F ∨ w.heap.size ≤ i) ∧ i < w'.heap.size := by
  obtain ⟨b, B, cap, rfl, rfl, h⟩ := h
  have z := h.small
  have ck := bcheck_a h at_ n o0 o1 w0 w1 hr.err
  by_cases e0 : r = 0
  · subst e0
    obtain ⟨a, m, rfl, rfl, ham⟩ := cutE_ok hr.err
    obtain rfl := hr.ok rfl
    rw [Int.toNat_natCast, Int.toNat_natCast]
    have rm := h.room
    have hd : BufIn w.drew b B cap s := h.heap rfl rfl
    have c := hd.cell
    obtain ⟨cs, hcs⟩ : ∃ cs, cs = cellsB (s.extract (a + m) s.size) := ⟨_, rfl⟩
    have lcs : cs.length = s.size - (a + m) := by rw [hcs, cellsB_length, ext_size _ _ _ (Nat.le_refl _)]
    have ncs : ∀ j, j < cs.length → cs[j]? = some (.int .u8 (byteS s (a + m + j) : Int)) := fun j hj => by
      rw [lcs] at hj
      rw [hcs, cellsB_at _ j (by rw [ext_size _ _ _ (Nat.le_refl _)]; omega), byteS_ext _ _ _ _ (Nat.le_refl _), if_pos (by omega)]
    obtain ⟨w1, hw1⟩ : ∃ w1, w1 = w.drew.setCells B a cs := ⟨_, rfl⟩
    have c1 : w1.cell? ⟨b, 0, none⟩ = some (.slice (some ⟨B, 0, none⟩) s.size cap) := by rw [hw1, World.cell?_setCells_out B cs a _ ⟨b, 0, none⟩ (fun e => absurd e h.ne)]; exact c
    have f1 : w1.frozen? ⟨b, 0, none⟩ = false := by rw [hw1, World.frozen?_setCells]; exact hd.free
    have g1 : WBut [b, B] w w1 := by rw [hw1]; exact (wider_but ((Wider.refl w).drew) (setCells_but w.drew B a cs)).wide (by simp)
    have lt1 : b < w1.heap.size ∧ B < w1.heap.size := by have g := g1.size; have := h.lt; omega
    have row1 : Bts w1 B s.size (fun j => if j < s.size - m then (byteS (delT s a m) j : Int) else (byteS s j : Int)) := by
      rw [hw1]
      refine hd.row.cells (by omega) (fun j hj => ?_) (fun j hj q => ?_)
      · rw [ncs j hj, if_pos (by omega), byteS_del s a m _ ham, if_neg (by omega)]
        congr 4; omega
      · by_cases k : j < s.size - m
        · rw [if_pos k, byteS_del s a m _ ham, if_pos (by omega)]
        · rw [if_neg k]
    have fin := del_end h.ne z rm ham (w1 := w1.drew) (v := .slice (some ⟨B, 0, none⟩) s.size cap) c1 f1 ⟨row1.cell, row1.free⟩ lt1
    have gk0 := WBut.wide (G := [b, B]) (setCell_but w1.drew ⟨b, 0, none⟩ (.slice (some ⟨B, 0, none⟩) (s.size - m) cap)) (by simp)
    have gk : WBut [b, B] w1 (w1.drew.setCell ⟨b, 0, none⟩ (.slice (some ⟨B, 0, none⟩) (s.size - m) cap)) := ⟨gk0.os, gk0.out, gk0.size, gk0.heap⟩
    have gfin := g1.trans gk (fun i hi => .inl hi)
    clear gk gk0
    have i0 : (0 : Int) ≤ (a : Int) := by omega
    have i1 : (a : Int) ≤ (s.size : Int) := by omega
    have i2 : (0 : Int) ≤ (a : Int) + (m : Int) := by omega
    have i3 : (a : Int) + (m : Int) ≤ (s.size : Int) := by omega
    have i4 : (0 : Int) ≤ (s.size : Int) - (m : Int) := by omega
    have i5 : (s.size : Int) - (m : Int) ≤ (cap : Int) := by omega
    have hW : IntKind.i64.wrap ((a : Int) + (m : Int)) = (a : Int) + (m : Int) := by rw [IntWalk.i64_in _ (by omega)]
    have hW2 : IntKind.i64.wrap ((s.size : Int) - (m : Int)) = (s.size : Int) - (m : Int) := by rw [IntWalk.i64_in _ (by omega)]
    have t1 : ((a : Int) + (m : Int)).toNat = a + m := by omega
    have t2 : ((s.size : Int) - (m : Int)).toNat = s.size - m := by omega
    by_cases q : a + m < s.size
    · have hrun := run_copy_cells (P := Try.prog) w.drew 23 23 3 5 B a (s.size - a) (cap - a) ⟨B, a + m, none⟩ (s.size - (a + m)) (cap - (a + m)) cs Try.underlying23 (by kernel_rfl) (by rw [lcs]; exact (Nat.min_eq_left (by omega)).symm) (fun j v hj => by
          have l : j < cs.length := (List.getElem?_eq_some_iff.1 hj).1
          rw [ncs j l] at hj
          rw [Addr.add_lit, hd.row.cell (a + m + j) (by omega)]; exact hj) (fun j hj => by rw [hd.row.cell (a + j) (by omega)]; rfl) (fun j hj => hd.row.free (a + j) (by omega)) (by rw [hcs]; exact cellsB_one _)
      rw [← hw1] at hrun
      have q1 : ¬ cap = a := by omega
      have q2 : ¬ cap = a + m := by omega
      clear hcs ncs lcs row1 hw1
      go_enter Try.func14, Try.ntmps14
      go_wp2_with (go_at_call 29; ((with_reducible refine ck.mono ?_); rintro e w2 ⟨rfl, rfl⟩))
      go_region_law (refine step_copy_run rfl (.tmp 20) (.tmp 28) 23 23 rfl rfl rfl hrun ?_)
      all_goals
        go_wp2
        go_region
        all_goals
          go_wp2
          go_ret
          exact ⟨rfl, buf_stay gfin fin⟩
    · have hm : Nat.min (s.size - (a + m)) (s.size - a) = 0 := by rw [show s.size - (a + m) = 0 by omega]; exact Nat.zero_min _
      have hnone : ∀ (d x : Option Addr) (c1 c2 : Nat), (Builtin.copy_ #[23, 23] 3 #[.slice d (s.size - a) c1, .slice x (s.size - (a + m)) c2]).run Try.prog w.drew = .ok (goInt 0) w.drew := fun d x c1 c2 =>
        run_copy_none (P := Try.prog) w.drew 23 23 3 5 d x (s.size - a) c1 (s.size - (a + m)) c2 Try.underlying23 (by kernel_rfl) hm
      have e : w1 = w.drew := by
        obtain rfl : cs = [] := List.eq_nil_of_length_eq_zero (by omega)
        exact hw1
      subst e
      clear hw1 hcs ncs lcs row1 hm
      by_cases qa : cap = a
      · have alt : BufIn (w.drew.drew.setCell ⟨b, 0, none⟩ (.slice (some ⟨B, 0, none⟩) s.size a)) b B a (delT s a m) ∧ WBut [b, B] w (w.drew.drew.setCell ⟨b, 0, none⟩ (.slice (some ⟨B, 0, none⟩) s.size a)) := by
          subst qa
          obtain rfl : m = 0 := by omega
          exact ⟨fin, gfin⟩
        obtain ⟨fin2, gfin2⟩ := alt
        go_enter Try.func14, Try.ntmps14
        go_wp2_with (go_at_call 29; ((with_reducible refine ck.mono ?_); rintro e w2 ⟨rfl, rfl⟩))
        go_region_law (refine step_copy_run rfl (.tmp 20) (.tmp 28) 23 23 rfl rfl rfl (hnone _ _ _ _) ?_)
        all_goals
          go_wp2
          go_region
          all_goals
            go_wp2
            go_ret
            first | exact ⟨rfl, buf_stay gfin2 fin2⟩ | exact ⟨rfl, buf_stay gfin fin⟩
      · by_cases qb : cap = a + m
        · have alt : BufIn (w.drew.drew.setCell ⟨b, 0, none⟩ (.slice (some ⟨B, 0, none⟩) (s.size - m) (a + m))) b B (a + m) (delT s a m) ∧ WBut [b, B] w (w.drew.drew.setCell ⟨b, 0, none⟩ (.slice (some ⟨B, 0, none⟩) (s.size - m) (a + m))) := by
            subst qb
            exact ⟨fin, gfin⟩
          obtain ⟨fin2, gfin2⟩ := alt
          go_enter Try.func14, Try.ntmps14
          go_wp2_with (go_at_call 29; ((with_reducible refine ck.mono ?_); rintro e w2 ⟨rfl, rfl⟩))
          go_region_law (refine step_copy_run rfl (.tmp 20) (.tmp 28) 23 23 rfl rfl rfl (hnone _ _ _ _) ?_)
          all_goals
            go_wp2
            go_region
            all_goals
              go_wp2
              go_ret
              first | exact ⟨rfl, buf_stay gfin2 fin2⟩ | exact ⟨rfl, buf_stay gfin fin⟩
        · skip
          go_enter Try.func14, Try.ntmps14
          go_wp2_with (go_at_call 29; ((with_reducible refine ck.mono ?_); rintro e w2 ⟨rfl, rfl⟩))
          go_region_law (refine step_copy_run rfl (.tmp 20) (.tmp 28) 23 23 rfl rfl rfl (hnone _ _ _ _) ?_)
          all_goals
            go_wp2
            go_region
            all_goals
              go_wp2
              go_ret
              exact ⟨rfl, buf_stay gfin fin⟩
  · obtain rfl := hr.bad e0
    have e1 : (r != 0) = true := by simpa using e0
    clear hr
    go_enter Try.func14, Try.ntmps14
    go_wp2_with (go_at_call 29; ((with_reducible refine ck.mono ?_); rintro e w2 ⟨rfl, rfl⟩))
    go_ret
    exact ⟨rfl, buf_stay (cap := cap) ((Wider.refl _).but _) h⟩

/-! ### Insert -/
theorem run_append_zeros0 {P : Program} (w : World) (t tn ty e : TypeId) (i : TypeInfo) (kq kn : IntKind) (ht : P.underlying t = some (.slice e)) (htn : P.underlying tn = some (.int kn)) (hi : P.info? e = some i) (A : Addr) (n c : Nat) (hc : n ≤ c) :
    (Builtin.append_ #[t, tn] ty #[.slice (some A) n c, .int kq 0]).run P w = .ok (.slice (some A) n c) w := by
  have hw : IntKind.i64.wrap (0 : Int) = 0 := by rw [IntKind.wrap_i64]; omega
  simp [Builtin.append_, run_underlying ht, run_underlying htn, sizeOf, typeInfo, hi, asInt, asIntOf, hw, hc, storeCells]
/-- What stands in the row behind both appends. -/
theorem row_ins (s : ByteArray) (a n : Nat) (ha : a ≤ s.size) (j : Nat) (hj : j < s.size + n) :
    ((List.range a).map (fun j => Value.int .u8 (byteS s j : Int)) ++ (List.replicate n (Value.int .u8 0) ++ (List.range (s.size - a)).map (fun j => Value.int .u8 (byteS s (a + j) : Int))))[j]? = some (.int .u8 (byteS (insT s a n) j : Int)) := by
  rw [byteS_ins s a n j ha]
  by_cases c : j < a
  · rw [if_pos c, List.getElem?_append_left (by simpa using c), List.getElem?_map, List.getElem?_range c]; rfl
  · rw [if_neg c, List.getElem?_append_right (by simp; omega)]
    by_cases d : j < a + n
    · rw [if_pos d, List.getElem?_append_left (by simp; omega), List.getElem?_replicate, if_pos (by simp; omega)]; rfl
    · rw [if_neg d, List.getElem?_append_right (by simp; omega), List.getElem?_map, List.getElem?_range (by simp; omega)]
      simp only [List.length_map, List.length_range, List.length_replicate, Option.map_some]
      congr 4; omega
theorem zeroCells_u8 (n : Nat) : Builtin.zeroCells (Value.int IntKind.u8 0).cells n = (List.replicate n (Value.int .u8 0)).toArray := by
  have e : (Value.int IntKind.u8 0).cells = #[Value.int .u8 0] := rfl
  rw [e]
  apply Array.ext
  · simp [Builtin.zeroCells]
  · intro i h1 h2
    simp [Builtin.zeroCells, Nat.mod_one]
set_option maxHeartbeats 1000000 in
theorem ins_run {w : World} {b B cap : Nat} {s : ByteArray} (h : BufIn w b B cap s) (a n : Nat) (ha : a ≤ s.size) (hn : s.size + n ≤ 9216) (af : Addr) (haf : a < s.size → af = ⟨B, a, none⟩) (cc : Nat) :
    ∃ G1 c1 w1 G c w2, (Builtin.append_ #[23, 3] 23 #[.slice (some ⟨B, 0, none⟩) a a, .int .i64 (n : Int)]).run Try.prog w = .ok (.slice (some ⟨G1, 0, none⟩) (a + n) c1) w1 ∧
      (Builtin.append_ #[23, 23] 23 #[.slice (some ⟨G1, 0, none⟩) (a + n) c1, .slice (some af) (s.size - a) cc]).run Try.prog w1 = .ok (.slice (some ⟨G, 0, none⟩) (s.size + n) c) w2 ∧
      s.size + n ≤ c ∧ Wider w w1 ∧ Wider w w2 ∧ (G = B ∨ w.heap.size ≤ G) ∧ G < w2.heap.size ∧ Bts w2 G (s.size + n) (fun j => (byteS (insT s a n) j : Int)) := by
  obtain ⟨i0, hi, hz0, hz1, hz2⟩ := infoN_parts
  obtain ⟨olds, hol⟩ : ∃ olds, olds = (List.range a).map fun j => Value.int .u8 (byteS s j : Int) := ⟨_, rfl⟩
  obtain ⟨news, hnw⟩ : ∃ news, news = (List.range (s.size - a)).map fun j => Value.int .u8 (byteS s (a + j) : Int) := ⟨_, rfl⟩
  have lol : olds.length = a := by rw [hol]; simp
  have lnw : news.length = s.size - a := by rw [hnw]; simp
  have fol : ∀ j u, olds[j]? = some u → w.cell? ⟨B, j, none⟩ = some u := fun j u hj => by
    have l : j < a := by rw [← lol]; exact (List.getElem?_eq_some_iff.1 hj).1
    rw [h.row.cell j (by omega), ← hj, hol, List.getElem?_map, List.getElem?_range l]; rfl
  have one : ∀ u ∈ news, u.oneCell' = true := fun u hu => by
    rw [hnw] at hu
    obtain ⟨x, _, rfl⟩ := List.mem_map.1 hu
    rfl
  have hc : Came w 1 (some ⟨B, 0, none⟩) B 0 a a olds :=
    ⟨Nat.le_refl _, fun _ => rfl, fun _ => h.lt.2, by rw [lol, Nat.mul_one], fun j u hj => by rw [Nat.zero_add]; exact fol j u hj, fun j hj => by simp at hj⟩
  have S0 := Upon.start (e := 5) hc
  -- the first append
  have step1 : ∃ G1 c1 w1, (Builtin.append_ #[23, 3] 23 #[.slice (some ⟨B, 0, none⟩) a a, .int .i64 (n : Int)]).run Try.prog w = .ok (.slice (some ⟨G1, 0, none⟩) (a + n) c1) w1 ∧
      Upon w 5 1 (some ⟨B, 0, none⟩) B 0 a a olds w1 (.slice (some ⟨G1, 0, none⟩) (a + n) c1) n (List.replicate n (.int .u8 0)) 0 := by
    rcases Nat.eq_zero_or_pos n with rfl | hp
    · exact ⟨B, a, w, run_append_zeros0 (P := Try.prog) w 23 3 23 5 i0 .i64 .i64 Try.underlying23 Try.underlying3 hi ⟨B, 0, none⟩ a a (Nat.le_refl _), S0⟩
    · have hold := run_firstCells_some (P := Try.prog) w.drew i0.size a ⟨B, 0, none⟩ a a olds (by rw [lol, hz1, Nat.mul_one]) (fun j u hj => by rw [Addr.add_lit, Nat.zero_add]; exact fol j u hj)
      have r := Lib.run_append_grow_zeros (P := Try.prog) w 23 3 23 5 i0 (.int .u8 0) .i64 .i64 Try.underlying23 Try.underlying3 hi hz0 (some ⟨B, 0, none⟩) a a olds hold n hp (by omega) (by omega) (by omega) (by rw [hz2]; omega) (by rw [hz2]; exact growslice_fits (by omega) (by omega))
      have hge := grownCap_ge w (a + n) a 5
      have hcm := grownCap_le_maxLen w (a + n) a 5 (by simp only [maxLen]; omega)
      obtain ⟨C, hC⟩ : ∃ C, grownCap w (a + n) a 5 = C := ⟨_, rfl⟩
      rw [hC] at r hge hcm
      rw [zeroCells_u8, zeroCells_u8] at r
      obtain ⟨R, hR⟩ : ∃ R : Array Value, olds.toArray ++ (List.replicate n (Value.int .u8 0)).toArray ++ (List.replicate (C - (a + n)) (Value.int .u8 0)).toArray = R := ⟨_, rfl⟩
      rw [hR] at r
      have hRl : R.toList = (olds ++ List.replicate n (Value.int .u8 0)) ++ List.replicate (C - (a + n)) (Value.int .u8 0) := by rw [← hR]; simp
      have hRs : R.size = C := by rw [← Array.length_toList, hRl]; simp [lol]; omega
      have hblk : ∀ k, k < w.heap.size → (w.drew.alloc (.cells R 5)).heap[k]? = w.heap[k]? := fun k hk => Below.heap_alloc w.drew _ k hk
      refine ⟨w.heap.size, C, _, r, ⟨by simp, Nat.zero_le _, Nat.zero_le _, (World.keptBut_refl w _).congr rfl rfl (fun k hk => hblk k hk), fun A hA => World.frozen?_of_block (hblk A.block hA), fun j hj => absurd hj (Nat.not_lt_zero _), .inr ⟨by omega, w.heap.size, C, rfl, ?_⟩⟩⟩
      refine ⟨Nat.le_refl _, hge, hcm, fun j hj => ?_, fun j hj => ⟨?_, ?_⟩⟩
      · rw [Nat.mul_one] at hj
        have e1 : (w.drew.alloc (.cells R 5)).cell? ⟨w.heap.size, j, none⟩ = _ := World.cell?_alloc_new w.drew R 5 j
        rw [e1, ← Array.getElem?_toList, hRl, List.getElem?_append_left (by simp [lol]; omega)]
      · have e1 : (w.drew.alloc (.cells R 5)).cell? ⟨w.heap.size, j, none⟩ = _ := World.cell?_alloc_new w.drew R 5 j
        rw [e1, Array.getElem?_eq_getElem (by rw [hRs]; omega)]; rfl
      · exact World.frozen?_alloc_new w.drew _ _ j
  obtain ⟨G1, c1, w1, r1, U1⟩ := step1
  have wide : ∀ {w' v m ks r}, Upon w 5 1 (some ⟨B, 0, none⟩) B 0 a a olds w' v m ks r → Wider w w' := fun U =>
    ⟨World.keptBut_mono (fun p ⟨j, hj, _⟩ => by have := U.rFit; omega) U.kept, U.kept.size⟩
  have g1 := wide U1
  have src : Src Try.prog 1 23 (.slice (some af) (s.size - a) cc) (s.size - a) news w1 := Src.ofSlice w1 Try.underlying23 af (s.size - a) cc news (by rw [lnw, Nat.mul_one]) (fun j u hj => by
    have l : j < s.size - a := by rw [← lnw]; exact (List.getElem?_eq_some_iff.1 hj).1
    rw [haf (by omega), Addr.add_lit, wkeep g1 (h.row.cell (a + j) (by omega)), ← hj, hnw, List.getElem?_map, List.getElem?_range l]; rfl) one
  obtain ⟨v2, w2, r2, U2⟩ := run_append_upon (P := Try.prog) hc 23 23 23 i0 (.int .u8 0) 1 Try.underlying23 hi hz0 hz1 hz2 rfl U1 (.slice (some af) (s.size - a) cc) (s.size - a) news src (by simp only [maxLen]; omega) (by omega)
  have g2 := wide U2
  have eN : a + (n + (s.size - a)) = s.size + n := by omega
  have cells : ∀ j, j < s.size + n → (olds ++ (List.replicate n (Value.int .u8 0) ++ news))[j]? = some (.int .u8 (byteS (insT s a n) j : Int)) := fun j hj => by rw [hol, hnw]; exact row_ins s a n ha j hj
  have hv := U2.val
  rw [eN] at hv
  rcases hv with ⟨q1, rfl, q3⟩ | ⟨q1, G, c, rfl, ho⟩
  · refine ⟨G1, c1, w1, B, a, w2, r1, r2, by omega, g1, g2, .inl rfl, Nat.lt_of_lt_of_le h.lt.2 g2.2, ?_⟩
    have e0 : n = 0 := by omega
    have e1 : a = s.size := by omega
    refine ⟨fun j hj => ?_, fun j hj => ?_⟩
    · rw [wkeep g2 (h.row.cell j (by omega)), byteS_ins s a n j ha, if_pos (by omega)]
    · rw [U2.frozen ⟨B, j, none⟩ h.lt.2]; exact h.row.free j (by omega)
  · have hG : G < w2.heap.size := World.block_lt_of_cell? _ _ (Option.isSome_iff_exists.1 (ho.there 0 (by have := ho.le; omega)).1).choose_spec
    refine ⟨G1, c1, w1, G, c, w2, r1, r2, ho.le, g1, g2, .inr ho.new, hG, ?_⟩
    exact ⟨fun j hj => by rw [ho.holds j (by omega)]; exact cells j hj, fun j hj => (ho.there j (by have := ho.le; omega)).2⟩

set_option maxHeartbeats 2000000 in
theorem bins_a {w : World} {p : Addr} {s : ByteArray} {F : List Nat} (h : BufAt w p s F) (at_ n : Int) {r : Int} {T : ByteArray} (o0 : -9223372036854775808 ≤ at_) (o1 : at_ ≤ 9223372036854775807) (w0 : -9223372036854775808 ≤ n) (w1 : n ≤ 9223372036854775807) (hr : InsR s at_ n T r) :
    Calls Try.prog 13 #[.pointer (some p), .int .i64 at_, .int .i64 n] w fun e w' => e = .returned (.int .i64 r) ∧ ∃ F', WBut F w w' ∧ BufAt w' p T F' ∧ ∀ i ∈ F', (i ∈ F ∨ w.heap.size ≤ i) ∧ i < w'.heap.size := by
  obtain ⟨b, B, cap, rfl, rfl, h⟩ := h
  have z := h.small
  have c0 := h.cell
  have he := hr.err
  by_cases e0 : r = 0
  · subst e0
    obtain ⟨a, m, rfl, rfl, ha, hm⟩ := insE_ok he
    obtain rfl := hr.ok rfl
    rw [Int.toNat_natCast, Int.toNat_natCast]
    have rm := h.room
    have i0 : (0 : Int) ≤ (a : Int) := by omega
    have i1 : (a : Int) ≤ (s.size : Int) := by omega
    have i2 : (a : Int) ≤ (cap : Int) := by omega
    have i3 : ¬ (a : Int) < 0 := by omega
    have i4 : ¬ (m : Int) < 0 := by omega
    have i5 : ¬ (s.size : Int) < (a : Int) := by omega
    have i6 : ¬ 9216 - (s.size : Int) < (m : Int) := by omega
    have hW : IntKind.i64.wrap (9216 - (s.size : Int)) = 9216 - (s.size : Int) := by rw [IntWalk.i64_in _ (by omega)]
    have key : ∀ (nq : Nat) (af : Addr) (haf : a < s.size → af = ⟨B, a, none⟩) (cc : Nat), ∃ G1 c1 w1 G c w2, (Builtin.append_ #[23, 3] 23 #[.slice (some ⟨B, 0, none⟩) a a, .int .i64 (m : Int)]).run Try.prog (w.drewN nq) = .ok (.slice (some ⟨G1, 0, none⟩) (a + m) c1) w1 ∧
        (Builtin.append_ #[23, 23] 23 #[.slice (some ⟨G1, 0, none⟩) (a + m) c1, .slice (some af) (s.size - a) cc]).run Try.prog w1 = .ok (.slice (some ⟨G, 0, none⟩) (s.size + m) c) w2 ∧
        w2.cell? ⟨b, 0, none⟩ = some (.slice (some ⟨B, 0, none⟩) s.size cap) ∧ w2.frozen? ⟨b, 0, none⟩ = false ∧
        ∃ F', WBut [b, B] w (w2.setCell ⟨b, 0, none⟩ (.slice (some ⟨G, 0, none⟩) (s.size + m) c)) ∧ BufAt (w2.setCell ⟨b, 0, none⟩ (.slice (some ⟨G, 0, none⟩) (s.size + m) c)) ⟨b, 0, none⟩ (insT s a m) F' ∧ ∀ i ∈ F', (i ∈ [b, B] ∨ w.heap.size ≤ i) ∧ i < (w2.setCell ⟨b, 0, none⟩ (.slice (some ⟨G, 0, none⟩) (s.size + m) c)).heap.size := by
      intro nq af haf cc
      have hd : BufIn (w.drewN nq) b B cap s := h.heap rfl rfl
      obtain ⟨G1, c1, w1, G, c2, w2, r1, r2, hcap, g1, g2, hG, hGl, row⟩ := ins_run hd a m ha hm af haf cc
      have h2 := hd.on g2
      have ne : b ≠ G := by
        rcases hG with rfl | hG
        · exact h.ne
        · have := h.lt.1
          have e : (w.drewN nq).heap.size = w.heap.size := rfl
          omega
      have sz : (w2.setCell ⟨b, 0, none⟩ (.slice (some ⟨G, 0, none⟩) (s.size + m) c2)).heap.size = w2.heap.size := by simp [World.setCell]
      have gk0 := WBut.wide (G := [b, B]) (setCell_but w2 ⟨b, 0, none⟩ (.slice (some ⟨G, 0, none⟩) (s.size + m) c2)) (by simp)
      have gw : Wider w w2 := ((Wider.refl w).drewN nq).trans g2
      refine ⟨G1, c1, w1, G, c2, w2, r1, r2, h2.cell, h2.free, [b, G], wider_but gw gk0, ⟨b, G, c2, rfl, rfl, ?_⟩, fun i hi => ?_⟩
      · have e := insT_size s a m ha
        refine ⟨ne, by omega, by omega, by rw [e]; exact csame h2.cell, (World.frozen?_setCell _ _ _ _).trans h2.free, ?_, ?_⟩
        · rw [e]
          refine ⟨fun j hj => ?_, fun j hj => (World.frozen?_setCell _ _ _ _).trans (row.free j hj)⟩
          rw [cother (by intro q; injection q with q1; exact ne q1), row.cell j hj]
        · rw [sz]; exact ⟨h2.lt.1, hGl⟩
      · rw [sz]
        have l2 := h2.lt
        have e : (w.drewN nq).heap.size = w.heap.size := rfl
        simp only [List.mem_cons, List.not_mem_nil, or_false] at hi ⊢
        rcases hi with rfl | rfl
        · exact ⟨.inl (.inl rfl), l2.1⟩
        · refine ⟨?_, hGl⟩
          rcases hG with rfl | hG
          · exact .inl (.inr rfl)
          · exact .inr (by omega)
    clear he hr
    have KEY := Lib.hid key
    clear key
    by_cases q : cap = a
    · subst q
      go_enter Try.func13, Try.ntmps13
      go_wp2
      go_quiet (fail)
      obtain ⟨G1, c1, w1, G, c2, w2, r1, r2, d0, d1, fin⟩ := KEY.out nq ⟨B, 0, none⟩ (fun k => by omega) 0
      rw [show s.size - cap = 0 by omega] at r2
      have FIN := Lib.hid fin
      clear fin KEY
      go_wp2_with (first
        | (at_builtin; refine wpList_append_run rfl (.tmp 50) (.tmp 51) 23 3 rfl rfl rfl r1 ?_)
        | (at_builtin; refine wpList_append_run rfl (.tmp 52) (.tmp 53) 23 23 rfl rfl rfl r2 ?_))
      go_ret
      exact ⟨rfl, FIN.out⟩
    · skip
      go_enter Try.func13, Try.ntmps13
      go_wp2
      go_quiet (fail)
      obtain ⟨G1, c1, w1, G, c2, w2, r1, r2, d0, d1, fin⟩ := KEY.out nq ⟨B, a, none⟩ (fun _ => rfl) (cap - a)
      have FIN := Lib.hid fin
      clear fin KEY
      go_wp2_with (first
        | (at_builtin; refine wpList_append_run rfl (.tmp 50) (.tmp 51) 23 3 rfl rfl rfl r1 ?_)
        | (at_builtin; refine wpList_append_run rfl (.tmp 52) (.tmp 53) 23 23 rfl rfl rfl r2 ?_))
      go_ret
      exact ⟨rfl, FIN.out⟩
  · obtain rfl := hr.bad e0
    clear hr
    have hb := Nat.zero_le T.size
    have STAY := Lib.hid (buf_stay (cap := cap) ((Wider.refl w).but [b, B]) h)
    by_cases c1 : at_ < 0
    · obtain rfl : r = 1 := by rw [← he]; unfold insE; rw [if_pos (by omega)]
      clear he
      go_enter Try.func13, Try.ntmps13
      go_wp2
      go_ret
      obtain ⟨F2, k1, k2, k3⟩ := STAY.out
      first | exact ⟨rfl, F2, k1, k2, k3⟩ | exact ⟨rfl, k1, F2, k2, fun i hi => by simpa using k3 i hi⟩
    · by_cases c2 : n < 0
      · obtain rfl : r = 1 := by rw [← he]; unfold insE; rw [if_pos (by omega)]
        clear he
        go_enter Try.func13, Try.ntmps13
        go_wp2
        go_ret
        obtain ⟨F2, k1, k2, k3⟩ := STAY.out
        first | exact ⟨rfl, F2, k1, k2, k3⟩ | exact ⟨rfl, k1, F2, k2, fun i hi => by simpa using k3 i hi⟩
      · by_cases c3 : (T.size : Int) < at_
        · obtain rfl : r = 4 := by rw [← he]; unfold insE; rw [if_neg (by omega), if_pos c3]
          clear he
          go_enter Try.func13, Try.ntmps13
          go_wp2
          go_ret
          obtain ⟨F2, k1, k2, k3⟩ := STAY.out
          first | exact ⟨rfl, F2, k1, k2, k3⟩ | exact ⟨rfl, k1, F2, k2, fun i hi => by simpa using k3 i hi⟩
        · by_cases c4 : 9216 - (T.size : Int) < n
          · obtain rfl : r = 5 := by rw [← he]; unfold insE; rw [if_neg (by omega), if_neg c3, if_pos c4]
            clear he
            go_enter Try.func13, Try.ntmps13
            go_wp2
            go_ret
            obtain ⟨F2, k1, k2, k3⟩ := STAY.out
            first | exact ⟨rfl, F2, k1, k2, k3⟩ | exact ⟨rfl, k1, F2, k2, fun i hi => by simpa using k3 i hi⟩
          · exact absurd (by rw [← he]; unfold insE; rw [if_neg (by omega), if_neg c3, if_neg c4]) e0

end Go.Proofs.Ytlgllgdaodfocaa
