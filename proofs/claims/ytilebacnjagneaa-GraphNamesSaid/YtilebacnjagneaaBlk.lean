/- Blocks of a call's own, rows of bytes, appends of texts to such beside other things. -/
import Derived.Test.YtilebacnjagneaaRowV
import Derived.Test.YtilebacnjagneaaTMem
import Derived.Test.YtilebacnjagneaaSMake
import Derived.WalkKit
import Derived.Lib.Hide
import Derived.Lib.AppendStr
import Derived.Deep.DeepCutAuto
import Derived.WalkLawsBesides
import Derived.WalkSpells
import Derived.BigQuiet
import Derived.BigRegion
import Derived.Deep.RegionLaw
import Derived.Deep.RegionHeld3
namespace Go.Proofs.Ytilebacnjagneaa
set_option linter.unusedVariables false
open Go.ChangeShapes Go.WideShapes Go.ChangeAt Go.RowKit Go.Joins

/-! ### A row of bytes that a call owns -/
def cellsB (l : List UInt8) : List Value := l.map fun b => Value.int .u8 (b.toNat : Int)
theorem cellsB_length (l : List UInt8) : (cellsB l).length = l.length := by simp [cellsB]
theorem cellsB_append (l m : List UInt8) : cellsB (l ++ m) = cellsB l ++ cellsB m := by simp [cellsB]
theorem cellsB_str (s : ByteArray) : Lib.strCells s = cellsB s.data.toList := rfl
theorem cellsB_one (l : List UInt8) : ∀ u ∈ cellsB l, u.oneCell' = true := by
  intro u hu
  obtain ⟨x, _, rfl⟩ := List.mem_map.1 hu
  rfl
theorem nums_mkB (l : List UInt8) : strOfNums (l.map fun b => (b.toNat : Int)) = mkB l := by
  apply ba_ext
  rw [strOfNums_data, mkB_data, List.map_map]
  conv => rhs; rw [← List.map_id l]
  refine List.map_congr_left fun b _ => ?_
  show UInt8.ofNat ((b.toNat : Int).toNat) = b
  rw [Int.toNat_natCast]; simp
/-- Such a row as a text. -/
theorem own_text {w : World} {b n : Nat} {v : Value} {l : List UInt8} (h : w.ownsRow b 5 1 v n (cellsB l)) : (convert 36 9 v).run Try.prog w = .ok (.string (mkB l)) w := by
  have hl := h.1
  rw [cellsB_length, Nat.mul_one] at hl
  have hh := h
  rcases h.2 with ⟨rfl, rfl⟩ | ⟨g, cap, cur, rfl, _⟩
  · have e0 : l = [] := List.eq_nil_of_length_eq_zero hl
    subst e0
    exact run_convert_bytes_nil w 36 5 Try.underlying36 Try.underlying5 0 0 9 Try.underlying9
  · have c := run_convert_bytes_arg (P := Try.prog) w 36 5 Try.underlying36 Try.underlying5 g 0 n cap (l.map fun b => (b.toNat : Int)) (by simp [hl]) (fun i hi => by
      have q := hh.cells rfl i (.int .u8 ((l.map fun b => (b.toNat : Int)).getD i 0)) (by
        rw [List.getD_eq_getElem?_getD]
        simp only [cellsB, List.getElem?_map]
        rw [List.getElem?_eq_getElem (by omega)]; rfl)
      rw [Addr.add_lit] at q
      exact q) 9 Try.underlying9
    rw [nums_mkB] at c
    exact c
theorem wider_appendS {W wr w1 : World} {e : TypeId} {size n : Nat} {v : Value} {xs : List Value} (g : Wider W wr) (h : wr.ownsRow W.heap.size e size v n xs) (k : wr.grownBy w1 v.ownBlock) : Wider W w1 := wider_append g h k
/-- A block that is held whole. -/
abbrev blkT (B : Nat) (C : Array Value) (t : TypeId) : Thing := ([B], fun w => w.heap[B]? = some (.cells C t (0, 0)))
theorem blk_stable (B : Nat) (C : Array Value) (t : TypeId) : (blkT B C t).Stable := fun W w h k => (k B (by simp)).trans h
theorem blk_cell {w : World} {B : Nat} {C : Array Value} {t : TypeId} (h : w.heap[B]? = some (.cells C t (0, 0))) (j : Nat) {v : Value} (e : C[j]? = some v) : w.cell? ⟨B, j, none⟩ = some v := by
  unfold World.cell?; simp [h, e]
theorem blk_free {w : World} {B : Nat} {C : Array Value} {t : TypeId} (h : w.heap[B]? = some (.cells C t (0, 0))) (j : Nat) : w.frozen? ⟨B, j, none⟩ = false := by
  unfold World.frozen?; simp [h]
theorem Own.blk {V w : World} {L : List Thing} (H : Own V w L) (C : Array Value) (t : TypeId) : Own V (w.alloc (.cells C t)) (blkT w.heap.size C t :: L) := by
  have e : (w.alloc (.cells C t)).heap[w.heap.size]? = some (.cells C t (0, 0)) := heap_alloc_new w _
  have l : (w.alloc (.cells C t)).heap.size = w.heap.size + 1 := by simp
  exact H.make ((Wider.refl w).alloc _) e (blk_stable _ _ _) fun i hi => by
    obtain rfl : i = w.heap.size := by simpa using hi
    omega
theorem Own.store {V w : World} {L : List Thing} {B : Nat} {C : Array Value} {t : TypeId} (H : Own V w (blkT B C t :: L)) (j : Nat) (v : Value) : Own V (w.setCell ⟨B, j, none⟩ v) (blkT B (C.setIfInBounds j v) t :: L) := by
  have hB := H.head
  have l : (w.setCell ⟨B, j, none⟩ v).heap.size = w.heap.size := by simp [World.setCell]
  refine H.turn (setCell_but w ⟨B, j, none⟩ v) ?_ (blk_stable _ _ _) fun i hi => ⟨.inl hi, by rw [l]; exact (H.new _ (.head _) i hi).2⟩
  show (w.setCell ⟨B, j, none⟩ v).heap[B]? = _
  simp only [World.setCell, Array.getElem?_modify, if_true]
  rw [hB]; rfl
theorem Own.last {V w : World} {L : List Thing} {r : Thing} (H : Own V w L) (hs : r.2 w) (hst : r.Stable) (hn : r.1 = []) : Own V w (L ++ [r]) where
  holds x m := by
    rcases List.mem_append.1 m with m | m
    · exact H.holds x m
    · obtain rfl : x = r := by simpa using m
      exact hs
  new x m i hi := by
    rcases List.mem_append.1 m with m | m
    · exact H.new x m i hi
    · obtain rfl : x = r := by simpa using m
      rw [hn] at hi; simp at hi
  apart := by
    rw [List.pairwise_append]
    refine ⟨H.apart, by simp, fun a _ b hb => ?_⟩
    obtain rfl : b = r := by simpa using hb
    intro i _; rw [hn]; simp
  stable x m := by
    rcases List.mem_append.1 m with m | m
    · exact H.stable x m
    · obtain rfl : x = r := by simpa using m
      exact hst
  wider := H.wider
theorem Own.nils {V w : World} {L : List Thing} (H : Own V w L) (e : TypeId) (size : Nat) : Own V w (L ++ [rowT e size (.slice none 0 0) 0 []]) :=
  H.last (World.ownsRow_nil _ _ _ _) (rowT_stable _ _ _ _ _) rfl
theorem own_base {V w : World} {L : List Thing} {e : TypeId} {size n : Nat} {v : Value} {xs : List Value} (H : Own V w (rowT e size v n xs :: L)) : w.ownsRow V.heap.size e size v n xs :=
  ownsRow_base H.head fun i hi => (H.new _ (.head _) i hi).1
theorem lies2 (w : World) (u v : Value) (t : TypeId) (hu : u.oneCell' = true) (hv : v.oneCell' = true) :
    (∀ (j : Nat) (x : Value), ([u, v] : List Value)[j]? = some x → (w.alloc (.cells #[u, v] t)).cell? ((⟨w.heap.size, 0, none⟩ : Addr).add j) = some x) ∧ (∀ x ∈ ([u, v] : List Value), x.oneCell' = true) := by
  refine ⟨fun j x hj => ?_, fun x hx => ?_⟩
  · match j, hj with
    | 0, hj => simp at hj; subst hj; simp [Addr.add, go_sem]
    | 1, hj => simp at hj; subst hj; simp [Addr.add, go_sem]
    | j + 2, hj => simp at hj
  · simp only [List.mem_cons, List.not_mem_nil, or_false] at hx
    rcases hx with rfl | rfl
    · exact hu
    · exact hv
theorem lies1 (w : World) (u : Value) (t : TypeId) (hu : u.oneCell' = true) :
    (∀ (j : Nat) (x : Value), ([u] : List Value)[j]? = some x → (w.alloc (.cells #[u] t)).cell? ((⟨w.heap.size, 0, none⟩ : Addr).add j) = some x) ∧ (∀ x ∈ ([u] : List Value), x.oneCell' = true) := by
  refine ⟨fun j x hj => ?_, fun x hx => ?_⟩
  · match j, hj with
    | 0, hj => simp at hj; subst hj; simp [Addr.add, go_sem]
    | j + 1, hj => simp at hj
  · simp only [List.mem_cons, List.not_mem_nil, or_false] at hx
    rcases hx with rfl
    exact hu

/-! ### Texts -/
theorem mkB_append (l m : List UInt8) : mkB l ++ mkB m = mkB (l ++ m) := by
  apply ba_ext; rw [ByteArray.data_append, Array.toList_append, mkB_data, mkB_data, mkB_data]
theorem btake_next (s : ByteArray) (k : Nat) (h : k < s.size) : s.data.toList.take (k + 1) = s.data.toList.take k ++ [s[k]] := by
  rw [List.take_succ_eq_append_getElem (by rw [← size_data]; exact h)]; rfl
def strLen : Value → Nat
  | .string s => s.size
  | _ => 0
theorem extract_list (s : ByteArray) (a b : Nat) : (s.extract a b).data.toList = (s.data.toList.take b).drop a := by
  rw [ByteArray.data_extract, Array.toList_extract]
  simp [List.extract, List.drop_take]
theorem ne_empty (s : ByteArray) (h : s.size ≠ 0) : s.toList.isEmpty = false ∧ ¬ s.toList = [] := by
  have e : s.toList.length = s.size := by rw [ByteArray.toList_eq]; simp
  constructor
  · cases q : s.toList with
    | nil => rw [q] at e; simp at e; omega
    | cons => rfl
  · intro q; rw [q] at e; simp at e; omega
theorem new1 (W : World) (v : Value) (t : TypeId) : (W.alloc (.cells #[v] t)).cell? ⟨W.heap.size, 0, none⟩ = some v := by rw [World.cell?_alloc_new]; simp
theorem cellsS_append (l m : List ByteArray) : cellsS (l ++ m) = cellsS l ++ cellsS m := by simp [cellsS]
theorem Own.strs {V : World} {L : List Thing} {w : World} {E : TypeId} {A : Option Addr} {n cap : Nat} {l : List ByteArray} (H : Own V w (rowT E 1 (.slice A n cap) n (cellsS l) :: L)) : StrsAt w A l := by
  obtain ⟨A', cap', e, h, _⟩ := strsAt_own H.head
  injection e with e1 e2 e3
  subst e1
  exact h
theorem strs_lay {w : World} {A : Option Addr} {l : List ByteArray} (h : StrsAt w A l) : ∀ a, A = some a → ∀ j u, (cellsS l)[j]? = some u → w.cell? (a.add j) = some u := fun a e j u hu => by
  obtain ⟨x, hx, rfl⟩ : ∃ x, l[j]? = some x ∧ Value.string x = u := by simpa [cellsS] using hu
  exact h.cell a e j x hx
theorem infoStr : (Try.prog.info? 9).map (fun i => (i.zero, i.size, i.bytes)) = some (some (.string ⟨#[]⟩), 1, 16) := by kernel_rfl

/-! ### An append of a text, beside other things -/
theorem append_block_text {P : Program} {w : World} {base : Nat} {t u ty e : TypeId} {i : TypeInfo} (ht : P.underlying t = some (.slice e)) (hu : P.underlying u = some .string) (hi : P.info? e = some i) (hz : i.zero = some (.int .u8 0))
    (hsize : i.size = 1) (hby : i.bytes = 1) {v : Value} {n : Nat} {xs : List Value} (hown : w.ownsRow base e 1 v n xs) {s : ByteArray} (h63 : n + s.size ≤ maxLen) (hbytes : n + s.size ≤ 140737488355328)
    {v' : Value} {w' : World} (hr : (Builtin.append_ #[t, u] ty #[v, .string s]).run P w = .ok v' w') : ∀ k, v'.ownBlock = some k → v.ownBlock = some k ∨ w.heap.size ≤ k := by
  intro k hk
  rcases hown.2 with ⟨rfl, rfl⟩ | ⟨g, cap, cur, rfl, hb, hg, hnc, hcm, hcs, htake⟩
  · obtain rfl : xs = [] := List.eq_nil_of_length_eq_zero (by simpa using hown.1)
    obtain ⟨v2, w2, r2, o2, _⟩ := Lib.run_append_own_string (P := P) w w.heap.size t u ty e i ht hu hi hz hsize hby _ 0 [] (World.ownsRow_nil _ _ _ _) s h63 hbytes (Nat.le_refl _)
    rw [hr] at r2
    injection r2 with e1 e2
    subst e1
    exact .inr (o2.lt k hk).1
  · by_cases hroom : n + s.size ≤ cap
    · have hcs' : cur.size = cap := by simpa using hcs
      have r2 := Lib.run_append_room_string (P := P) w t u ty e i ht hu hi hsize g n cap cur hg s hroom (by omega)
      rw [hr] at r2
      injection r2 with e1 e2
      subst e1
      exact .inl hk
    · have holds : ∀ j u, xs[j]? = some u → w.cell? ((⟨g, 0, none⟩ : Addr).add j) = some u := hown.cells (g := g) rfl
      have r2 := Lib.run_append_grow_string (P := P) w t u ty e i (.int .u8 0) ht hu hi hz ⟨g, 0, none⟩ n cap xs (by rw [hsize]; simpa using hown.1) holds s (by omega) (by simp only [maxLen] at h63; omega) (by rw [hby]; exact growslice_fits (by omega) (by omega))
      rw [hr] at r2
      injection r2 with e1 e2
      subst e1
      simp only [Value.ownBlock, Option.some.injEq] at hk
      exact .inr (by omega)
/-- Such an append as one step of a region that draws. -/
theorem step_append_text {P : Program} {V w : World} {L : List Thing} {ops : Array Oper} {o : Oper} {a : Act} {K : Act → World → Prop} {Q : Exit → Act → World → Prop} {E : Prop} (hgd : o.guard = none) (sl x : Operand) (t u : TypeId)
    (ho : o.op = Op.call { callee := Callee.builtin Builtin.append, args := #[sl, x], argTypes := #[t, u] })
    (e : TypeId) (i : TypeInfo) (ht : P.underlying t = some (.slice e)) (hu : P.underlying u = some .string) (hi : P.info? e = some i) (hz : i.zero = some (.int .u8 0)) (hsize : i.size = 1) (hby : i.bytes = 1)
    (v : Value) (n : Nat) (xs : List Value) (hs : a.eval sl = v) (H : Own V w (rowT e 1 v n xs :: L)) (s : ByteArray) (hx : a.eval x = .string s)
    (h63 : n + s.size ≤ maxLen) (hbytes : n + s.size ≤ 140737488355328) {k : Nat} (hk : n + s.size = k) {ys : List Value} (hys : xs ++ Lib.strCells s = ys)
    (h : ∀ B c2 w', Own V w' (rowT e 1 (.slice B k c2) k ys :: L) → K (a.put o.dst (.slice B k c2)) w') :
    if Region.wanted o (yielded ops a.tmps) = true then Oper.wp P o a w K Q else E := by
  subst hk hys
  have hw : Region.wanted o (yielded ops a.tmps) = true := by simp [Region.wanted, hgd]
  rw [if_pos hw]
  obtain ⟨v', w', hr, h2, h3, _⟩ := Lib.run_append_own_string (P := P) w 0 t u o.type e i ht hu hi hz hsize hby v n xs H.head s h63 hbytes (Nat.zero_le _)
  have hb := append_block_text (P := P) ht hu hi hz hsize hby H.head h63 hbytes hr
  unfold Oper.wp execOp
  simp only [ho, resolve, invoke, builtin, Sem.run_bind, Sem.run_pure, Result.andThen_ok, List.map_toArray, List.map_cons, List.map_nil, hs, hx, hr]
  obtain ⟨B, c2, rfl⟩ := ownsRow_shape h2
  refine h B c2 w' (H.turn (s := rowT e 1 (.slice B (n + s.size) c2) (n + s.size) (xs ++ Lib.strCells s)) (grownBy_but h3) h2 (rowT_stable _ _ _ _ _) fun j hj => ?_)
  have hj2 : (Value.slice B (n + s.size) c2).ownBlock = some j := by simpa using hj
  refine ⟨?_, (h2.lt j hj2).2⟩
  rcases hb j hj2 with q | q
  · exact .inl (by simp [q])
  · exact .inr q

/-! ### Things taken together -/
/-- Of several things one, whose blocks are theirs. -/
theorem Own.split {V w : World} {s : Thing} {M L : List Thing} (H : Own V w (s :: L)) (hM : ∀ r ∈ M, r.2 w) (hst : ∀ r ∈ M, r.Stable) (hin : ∀ r ∈ M, ∀ i ∈ r.1, i ∈ s.1) (hap : M.Pairwise fun r q => ∀ i ∈ r.1, i ∉ q.1) : Own V w (M ++ L) where
  holds x m := by
    rcases List.mem_append.1 m with m | m
    · exact hM x m
    · exact H.holds x (.tail _ m)
  new x m i hi := by
    rcases List.mem_append.1 m with m | m
    · exact H.new s (.head _) i (hin x m i hi)
    · exact H.new x (.tail _ m) i hi
  apart := by
    have k := List.pairwise_cons.1 H.apart
    exact List.pairwise_append.2 ⟨hap, k.2, fun r hr q hq i hi => k.1 q hq i (hin r hr i hi)⟩
  stable x m := by
    rcases List.mem_append.1 m with m | m
    · exact hst x m
    · exact H.stable x (.tail _ m)
  wider := H.wider
theorem Own.join {V w : World} {s : Thing} {M L : List Thing} (H : Own V w (M ++ L)) (hs : s.2 w) (hst : s.Stable) (hin : ∀ i ∈ s.1, ∃ r ∈ M, i ∈ r.1) : Own V w (s :: L) where
  holds x m := by
    rcases List.mem_cons.1 m with rfl | m
    · exact hs
    · exact H.holds x (List.mem_append.2 (.inr m))
  new x m i hi := by
    rcases List.mem_cons.1 m with rfl | m
    · obtain ⟨r, hr, hir⟩ := hin i hi
      exact H.new r (List.mem_append.2 (.inl hr)) i hir
    · exact H.new x (List.mem_append.2 (.inr m)) i hi
  apart := by
    have k := List.pairwise_append.1 H.apart
    refine List.pairwise_cons.2 ⟨fun q hq i hi => ?_, k.2.1⟩
    obtain ⟨r, hr, hir⟩ := hin i hi
    exact k.2.2 r hr q hq i hir
  stable x m := by
    rcases List.mem_cons.1 m with rfl | m
    · exact hst
    · exact H.stable x (List.mem_append.2 (.inr m))
  wider := H.wider

end Go.Proofs.Ytilebacnjagneaa
