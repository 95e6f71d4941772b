/- RowV Open SMake Blk TBulk THelp TRef TRefB -/
import Derived.Test.YtoopdhgmdjienaaGreatDoorPkW03
import Derived.Test.YtoopdhgmdjienaaGreatDoorPkW01
import Derived.Test.YtoopdhgmdjienaaGreatDoorRows
import Derived.ProofKit
import Derived.OpenShut
import Derived.ChangeSame
import Derived.JoinedOf
import Derived.JoinedAt
import Derived.Lib.SmallJoins
import Derived.ChangeMaps5
import Derived.Laws.MakeOwn
import Derived.Laws.BytesArg
import Derived.Laws.IdiomStrings
import Derived.WalkKit
import Derived.Lib.Hide
import Derived.Lib.AppendStr
import Derived.Deep.DeepCutAuto
import Derived.WalkLawsBesides
import Derived.WalkSpells
import Derived.BigQuiet
import Derived.BigRegion
import Derived.Deep.RegionLaw
import Derived.Deep.RegionHeld3
namespace Go.Proofs.YtoopdhgmdjienaaGreatDoor
set_option linter.unusedVariables false
open Go.RowKit
theorem append_block {P : Program} {w : World} {base : Nat} {t ty e : TypeId} {i : TypeInfo} {z : Value} {size bytes : Nat} (ht : P.underlying t = some (.slice e)) (hi : P.info? e = some i) (hz : i.zero = some z)
 (hsize : i.size = size) (hby : i.bytes = bytes) (hzs : z.cells.size = size) (hsz : 0 < size)
 {v : Value} {n : Nat} {xs : List Value} (hown : w.ownsRow base e size v n xs)
 {A : Option Addr} {m c : Nat} {news : List Value} (hl : news.length = m * size) (h0 : A = none → m = 0) (hnews : ∀ a, A = some a → ∀ j u, news[j]? = some u → w.cell? (a.add j) = some u) (h1 : ∀ u ∈ news, u.oneCell' = true)
 (h63 : n + m ≤ maxLen) (hbytes : (n + m) * bytes ≤ 140737488355328)
 {v' : Value} {w' : World} (hr : (Builtin.append_ #[t, t] ty #[v, .slice A m c]).run P w = .ok v' w') : ∀ k, v'.ownBlock = some k → v.ownBlock = some k ∨ w.heap.size ≤ k := by
 intro k hk
 rcases hown.2 with ⟨rfl, rfl⟩ | ⟨g, cap, cur, rfl, hb, hg, hnc, hcm, hcs, htake⟩
 · obtain rfl : xs = [] := List.eq_nil_of_length_eq_zero (by simpa using hown.1)
   obtain ⟨v2, w2, r2, o2, _⟩ := run_append_any (P := P) w w.heap.size t ty e i z size bytes ht hi hz hsize hby hzs hsz _ 0 [] (World.ownsRow_nil _ _ _ _) A m c news hl h0 hnews h1 h63 hbytes (Nat.le_refl _)
   rw [hr] at r2
   injection r2 with e1 e2
   subst e1
   exact .inr (o2.lt k hk).1
 · cases A with
   | none =>
     obtain rfl := h0 rfl
     have r2 : (Builtin.append_ #[t, t] ty #[Value.slice (some ⟨g, 0, none⟩) n cap, .slice none 0 c]).run P w = .ok (Value.slice (some ⟨g, 0, none⟩) n cap) w := by
      simp [Builtin.append_, run_underlying ht, sizeOf, typeInfo, hi, Builtin.lenOf, Builtin.firstCells, hnc, storeCells]
     rw [hr] at r2
     injection r2 with e1 e2
     subst e1
     exact .inl hk
   | some a =>
     by_cases hroom : n + m ≤ cap
     · obtain ⟨w2, r2, _⟩ := run_append_fits (P := P) w base t ty e i size ht hi hsize g n cap xs hown a m c news hl (hnews a rfl) h1 hroom
       rw [hr] at r2
       injection r2 with e1 e2
       subst e1
       exact .inl hk
     · subst hsize hby
       have holds : ∀ j u, xs[j]? = some u → w.cell? ((⟨g, 0, none⟩ : Addr).add j) = some u := hown.cells (g := g) rfl
       have r2 := run_append_grow (P := P) w t ty e i z ht hi hz ⟨g, 0, none⟩ n cap xs hown.1 holds a m c news hl (hnews a rfl) (by omega) (by simp only [maxLen] at h63; omega) (growslice_fits (by omega) hbytes)
       rw [hr] at r2
       injection r2 with e1 e2
       subst e1
       simp only [Value.ownBlock, Option.some.injEq] at hk
       exact .inr (by omega)
theorem wpList_append_thing {P : Program} {V w : World} {L : List Thing} {ops : Array Oper} {rest : List Oper} {o : Oper} {a : Act} {Q : Exit → Act → World → Prop} (hgd : o.guard = none) (s x : Operand) (t : TypeId)
 (ho : o.op = .call { callee := .builtin .append, args := #[s, x], argTypes := #[t, t] })
 (e : TypeId) (i : TypeInfo) (z : Value) (size bytes : Nat) (ht : P.underlying t = some (.slice e)) (hi : P.info? e = some i) (hz : i.zero = some z)
 (hsize : i.size = size) (hby : i.bytes = bytes) (hzs : z.cells.size = size) (hsz : 0 < size)
 (v : Value) (n : Nat) (xs : List Value) (hs : a.eval s = v) (H : Own V w (rowT e size v n xs :: L))
 (A : Option Addr) (m c : Nat) (news : List Value) (hx : a.eval x = .slice A m c) (hl : news.length = m * size) (h0 : A = none → m = 0) (hnews : ∀ a, A = some a → ∀ j u, news[j]? = some u → w.cell? (a.add j) = some u) (h1 : ∀ u ∈ news, u.oneCell' = true)
 (h63 : n + m ≤ maxLen) (hbytes : (n + m) * bytes ≤ 140737488355328) {k : Nat} (hk : n + m = k) {ys : List Value} (hys : xs ++ news = ys)
 (h : ∀ B c2 w', Own V w' (rowT e size (.slice B k c2) k ys :: L) → wpList P ops Q rest (a.put o.dst (.slice B k c2)) w') : wpList P ops Q (o :: rest) a w := by
 subst hk hys
 refine wpList_plain hgd fun K hK => ?_
 obtain ⟨v', w', hr, h2, h3⟩ := run_append_any (P := P) w 0 t o.type e i z size bytes ht hi hz hsize hby hzs hsz v n xs H.head A m c news hl h0 hnews h1 h63 hbytes (Nat.zero_le _)
 have hb := append_block (P := P) ht hi hz hsize hby hzs hsz H.head hl h0 hnews h1 h63 hbytes hr
 unfold Oper.wp execOp
 simp only [ho, resolve, invoke, builtin, Sem.run_bind, Sem.run_pure, Result.andThen_ok, List.map_toArray, List.map_cons, List.map_nil, hs, hx, hr]
 obtain ⟨B, c2, rfl⟩ := ownsRow_shape h2
 refine hK _ _ (h B c2 w' (H.turn (s := rowT e size (.slice B (n + m) c2) (n + m) (xs ++ news)) (grownBy_but h3) h2 (rowT_stable _ _ _ _ _) fun j hj => ?_))
 have hj2 : (Value.slice B (n + m) c2).ownBlock = some j := by simpa using hj
 refine ⟨?_, (h2.lt j hj2).2⟩
 rcases hb j hj2 with q | q
 · exact .inl (by simp [q])
 · exact .inr q
theorem Own.perm {V w : World} {L M : List Thing} (h : Own V w L) (p : L.Perm M) : Own V w M where
 holds r m := h.holds r (p.mem_iff.2 m)
 new r m := h.new r (p.mem_iff.2 m)
 apart := (p.pairwise_iff (fun {r q} hrq i hi hq => hrq i hq hi)).1 h.apart
 stable r m := h.stable r (p.mem_iff.2 m)
 wider := h.wider
theorem Own.third {V w : World} {x y z : Thing} {L : List Thing} (h : Own V w (x :: y :: z :: L)) : Own V w (z :: x :: y :: L) :=
 h.perm (((List.Perm.swap z y L).cons x).trans (List.Perm.swap z x (y :: L)))
theorem Own.fourth {V w : World} {x y z u : Thing} {L : List Thing} (h : Own V w (x :: y :: z :: u :: L)) : Own V w (u :: x :: y :: z :: L) :=
 h.perm ((((List.Perm.swap u z L).cons y).trans (List.Perm.swap u y (z :: L))).cons x |>.trans (List.Perm.swap u x (y :: z :: L)))
end Go.Proofs.YtoopdhgmdjienaaGreatDoor
namespace Go.Proofs.YtoopdhgmdjienaaGreatDoor
set_option linter.unusedVariables false
open Go.ChangeShapes Go.WideShapes Go.ChangeAt Go.RowKit Go.Joins
theorem own : ownKnob Tryz.prog.godebug = none := by kernel_rfl
theorem bounds_u64 {n : Int} (h : (Lit.int .u64 n).wf = true) : 0 ≤ n ∧ n < 18446744073709551616 := by
 simp only [Lit.wf, Bool.and_eq_true, decide_eq_true_eq] at h
 have h1 : IntKind.u64.min = 0 := rfl
 have h2 : IntKind.u64.max = 18446744073709551615 := rfl
 omega
theorem bounds_i64 {n : Int} (h : (Lit.int .i64 n).wf = true) : -9223372036854775808 ≤ n ∧ n ≤ 9223372036854775807 := by
 simp only [Lit.wf, Bool.and_eq_true, decide_eq_true_eq] at h
 have h1 : IntKind.i64.min = -9223372036854775808 := rfl
 have h2 : IntKind.i64.max = 9223372036854775807 := rfl
 omega
end Go.Proofs.YtoopdhgmdjienaaGreatDoor
namespace Go.Proofs.YtoopdhgmdjienaaGreatDoor
set_option linter.unusedVariables false
open Go.RowKit
def zerosN (n : Nat) : Array Value := madeCells (Value.int .u8 0).cells n
theorem zerosN_at (n j : Nat) (h : j < n) : (zerosN n)[j]? = some (.int .u8 0) := by
 unfold zerosN
 have e : (Value.int IntKind.u8 0).cells = #[Value.int .u8 0] := rfl
 rw [e]
 have m : j % 1 = 0 := by omega
 simp [madeCells, h, m]
theorem infoN : (Tryz.prog.info? 5).map (fun i => (i.zero, i.size, i.bytes)) = some (some (.int .u8 0), 1, 1) := by kernel_rfl
theorem infoN_parts : ∃ i, Tryz.prog.info? 5 = some i ∧ i.zero = some (.int .u8 0) ∧ i.size = 1 ∧ i.bytes = 1 := by
 have h := infoN
 cases e : Tryz.prog.info? 5 with
 | none => rw [e] at h; cases h
 | some i =>
   rw [e] at h
   simp only [Option.map_some, Option.some.injEq, Prod.mk.injEq] at h
   exact ⟨i, rfl, h.1, h.2.1, h.2.2⟩
theorem makeN (n : Nat) (hn : n < 1000000) (w : World) : (Instr.makeSlice 24 (.int .i64 (n : Int)) (.int .i64 (n : Int))).run Tryz.prog w = .ok (.slice (some ⟨w.heap.size, 0, none⟩) n n) (w.alloc (.cells (zerosN n) 5)) := by
 obtain ⟨i0, hi, hz0, hz1, hz2⟩ := infoN_parts
 have h := run_make (P := Tryz.prog) (w := w) 24 5 i0 (.int .u8 0) Tryz.underlying24 hi hz0 .i64 .i64 (n : Int) (n : Int) (by omega) (by omega) (by rw [hz2]; omega) (by omega)
 rw [hz1, Int.toNat_natCast, Nat.mul_one] at h
 exact h
structure Bts (w : World) (B n : Nat) (v : Nat → Int) : Prop where
 cell : ∀ j, j < n → w.cell? ⟨B, j, none⟩ = some (.int .u8 (v j))
 free : ∀ j, j < n → w.frozen? ⟨B, j, none⟩ = false
theorem Bts.on {W w : World} {B n : Nat} {v : Nat → Int} (h : Bts W B n v) (g : Wider W w) : Bts w B n v :=
 ⟨fun j hj => wkeep g (h.cell j hj), fun j hj => wfree g (h.cell j hj) (h.free j hj)⟩
theorem Bts.congr {w : World} {B n : Nat} {v u : Nat → Int} (h : Bts w B n v) (e : ∀ j, j < n → v j = u j) : Bts w B n u := ⟨fun j hj => by rw [h.cell j hj, e j hj], h.free⟩
theorem Bts.put {w : World} {B n k : Nat} {y : Int} {v u : Nat → Int} (h : Bts w B n v) (hk : k < n) (e : ∀ j, j < n → u j = if j = k then y else v j) : Bts (w.setCell ⟨B, k, none⟩ (.int .u8 y)) B n u where
 cell j hj := by
  rw [e j hj]
  by_cases q : j = k
  · subst q; rw [if_pos rfl]; exact csame (h.cell j hj)
  · rw [if_neg q, cother (by intro r; injection r; omega)]; exact h.cell j hj
 free j hj := (World.frozen?_setCell _ _ _ _).trans (h.free j hj)
theorem Bts.made (w : World) (n : Nat) : Bts (w.alloc (.cells (zerosN n) 5)) w.heap.size n (fun _ => 0) where
 cell j hj := by rw [World.cell?_alloc_new]; exact zerosN_at n j hj
 free j hj := by simp [go_sem]
theorem Bts.text (w : World) (s : ByteArray) (cap : Nat) (e : TypeId) : Bts (w.alloc (.cells (bytesRow s cap) e ((bytesRow s cap).size, (bytesRow s cap).size + 1))) w.heap.size s.size (fun j => ((s.data.toList.getD j 0).toNat : Int)) where
 cell j hj := by
  have q := World.cell?_alloc_mark w (bytesRow s cap) e ((bytesRow s cap).size, (bytesRow s cap).size + 1) j
  rw [bytesRow_at s cap j hj] at q
  rw [q]
  have e2 : s.data.toList.getD j 0 = s.data[j] := by
   rw [List.getD_eq_getElem?_getD, List.getElem?_eq_getElem (by simpa using hj)]; rfl
  rw [e2]
 free j hj := by
  have q := World.frozen?_alloc_mark w (bytesRow s cap) e (bytesRow s cap).size ((bytesRow s cap).size + 1) j
  have l : s.size ≤ (bytesRow s cap).size := by unfold bytesRow; simp
  have l2 : decide ((bytesRow s cap).size ≤ j) = false := by simp; omega
  rw [l2, Bool.false_and] at q
  exact q
theorem Bts.conv {w : World} {B n : Nat} {v : Nat → Int} (h : Bts w B n v) (cap : Nat) {T : ByteArray} (hT : strOfNums ((List.range n).map v) = T) :
 (convert 24 9 (.slice (some ⟨B, 0, none⟩) n cap)).run Tryz.prog w = .ok (.string T) w := by
 have c := run_convert_bytes_arg (P := Tryz.prog) w 24 5 Tryz.underlying24 Tryz.underlying5 B 0 n cap ((List.range n).map v) (by simp) (fun i hi => by
  rw [Nat.zero_add, h.cell i hi, List.getD_eq_getElem?_getD, List.getElem?_map, List.getElem?_range hi]; rfl) 9 Tryz.underlying9
 rw [hT] at c
 exact c
end Go.Proofs.YtoopdhgmdjienaaGreatDoor
namespace Go.Proofs.YtoopdhgmdjienaaGreatDoor
set_option linter.unusedVariables false
open Go.ChangeShapes Go.WideShapes Go.ChangeAt Go.RowKit Go.Joins
def cellsB (l : List UInt8) : List Value := l.map fun b => Value.int .u8 (b.toNat : Int)
theorem cellsB_length (l : List UInt8) : (cellsB l).length = l.length := by simp [cellsB]
theorem cellsB_append (l m : List UInt8) : cellsB (l ++ m) = cellsB l ++ cellsB m := by simp [cellsB]
theorem cellsB_str (s : ByteArray) : Lib.strCells s = cellsB s.data.toList := rfl
theorem nums_mkB (l : List UInt8) : strOfNums (l.map fun b => (b.toNat : Int)) = mkB l := by
 apply ba_ext
 rw [strOfNums_data, mkB_data, List.map_map]
 conv => rhs; rw [← List.map_id l]
 refine List.map_congr_left fun b _ => ?_
 show UInt8.ofNat ((b.toNat : Int).toNat) = b
 rw [Int.toNat_natCast]; simp
theorem own_text {w : World} {b n : Nat} {v : Value} {l : List UInt8} (h : w.ownsRow b 5 1 v n (cellsB l)) : (convert 24 9 v).run Tryz.prog w = .ok (.string (mkB l)) w := by
 have hl := h.1
 rw [cellsB_length, Nat.mul_one] at hl
 have hh := h
 rcases h.2 with ⟨rfl, rfl⟩ | ⟨g, cap, cur, rfl, _⟩
 · have e0 : l = [] := List.eq_nil_of_length_eq_zero hl
   subst e0
   exact run_convert_bytes_nil w 24 5 Tryz.underlying24 Tryz.underlying5 0 0 9 Tryz.underlying9
 · have c := run_convert_bytes_arg (P := Tryz.prog) w 24 5 Tryz.underlying24 Tryz.underlying5 g 0 n cap (l.map fun b => (b.toNat : Int)) (by simp [hl]) (fun i hi => by
    have q := hh.cells rfl i (.int .u8 ((l.map fun b => (b.toNat : Int)).getD i 0)) (by
     rw [List.getD_eq_getElem?_getD]
     simp only [cellsB, List.getElem?_map]
     rw [List.getElem?_eq_getElem (by omega)]; rfl)
    rw [Addr.add_lit] at q
    exact q) 9 Tryz.underlying9
   rw [nums_mkB] at c
   exact c
abbrev blkT (B : Nat) (C : Array Value) (t : TypeId) : Thing := ([B], fun w => w.heap[B]? = some (.cells C t (0, 0)))
theorem blk_stable (B : Nat) (C : Array Value) (t : TypeId) : (blkT B C t).Stable := fun W w h k => (k B (by simp)).trans h
theorem blk_cell {w : World} {B : Nat} {C : Array Value} {t : TypeId} (h : w.heap[B]? = some (.cells C t (0, 0))) (j : Nat) {v : Value} (e : C[j]? = some v) : w.cell? ⟨B, j, none⟩ = some v := by
 unfold World.cell?; simp [h, e]
theorem blk_free {w : World} {B : Nat} {C : Array Value} {t : TypeId} (h : w.heap[B]? = some (.cells C t (0, 0))) (j : Nat) : w.frozen? ⟨B, j, none⟩ = false := by
 unfold World.frozen?; simp [h]
theorem Own.blk {V w : World} {L : List Thing} (H : Own V w L) (C : Array Value) (t : TypeId) : Own V (w.alloc (.cells C t)) (blkT w.heap.size C t :: L) := by
 have e : (w.alloc (.cells C t)).heap[w.heap.size]? = some (.cells C t (0, 0)) := heap_alloc_new w _
 have l : (w.alloc (.cells C t)).heap.size = w.heap.size + 1 := by simp
 exact H.make ((Wider.refl w).alloc _) e (blk_stable _ _ _) fun i hi => by
  obtain rfl : i = w.heap.size := by simpa using hi
  omega
theorem Own.store {V w : World} {L : List Thing} {B : Nat} {C : Array Value} {t : TypeId} (H : Own V w (blkT B C t :: L)) (j : Nat) (v : Value) : Own V (w.setCell ⟨B, j, none⟩ v) (blkT B (C.setIfInBounds j v) t :: L) := by
 have hB := H.head
 have l : (w.setCell ⟨B, j, none⟩ v).heap.size = w.heap.size := by simp [World.setCell]
 refine H.turn (setCell_but w ⟨B, j, none⟩ v) ?_ (blk_stable _ _ _) fun i hi => ⟨.inl hi, by rw [l]; exact (H.new _ (.head _) i hi).2⟩
 show (w.setCell ⟨B, j, none⟩ v).heap[B]? = _
 simp only [World.setCell, Array.getElem?_modify, if_true]
 rw [hB]; rfl
theorem Own.last {V w : World} {L : List Thing} {r : Thing} (H : Own V w L) (hs : r.2 w) (hst : r.Stable) (hn : r.1 = []) : Own V w (L ++ [r]) where
 holds x m := by
  rcases List.mem_append.1 m with m | m
  · exact H.holds x m
  · obtain rfl : x = r := by simpa using m
    exact hs
 new x m i hi := by
  rcases List.mem_append.1 m with m | m
  · exact H.new x m i hi
  · obtain rfl : x = r := by simpa using m
    rw [hn] at hi; simp at hi
 apart := by
  rw [List.pairwise_append]
  refine ⟨H.apart, by simp, fun a _ b hb => ?_⟩
  obtain rfl : b = r := by simpa using hb
  intro i _; rw [hn]; simp
 stable x m := by
  rcases List.mem_append.1 m with m | m
  · exact H.stable x m
  · obtain rfl : x = r := by simpa using m
    exact hst
 wider := H.wider
theorem Own.nils {V w : World} {L : List Thing} (H : Own V w L) (e : TypeId) (size : Nat) : Own V w (L ++ [rowT e size (.slice none 0 0) 0 []]) :=
 H.last (World.ownsRow_nil _ _ _ _) (rowT_stable _ _ _ _ _) rfl
theorem own_base {V w : World} {L : List Thing} {e : TypeId} {size n : Nat} {v : Value} {xs : List Value} (H : Own V w (rowT e size v n xs :: L)) : w.ownsRow V.heap.size e size v n xs :=
 ownsRow_base H.head fun i hi => (H.new _ (.head _) i hi).1
theorem lies2 (w : World) (u v : Value) (t : TypeId) (hu : u.oneCell' = true) (hv : v.oneCell' = true) :
 (∀ (j : Nat) (x : Value), ([u, v] : List Value)[j]? = some x → (w.alloc (.cells #[u, v] t)).cell? ((⟨w.heap.size, 0, none⟩ : Addr).add j) = some x) ∧ (∀ x ∈ ([u, v] : List Value), x.oneCell' = true) := by
 refine ⟨fun j x hj => ?_, fun x hx => ?_⟩
 · match j, hj with
   | 0, hj => simp at hj; subst hj; simp [Addr.add, go_sem]
   | 1, hj => simp at hj; subst hj; simp [Addr.add, go_sem]
   | j + 2, hj => simp at hj
 · simp only [List.mem_cons, List.not_mem_nil, or_false] at hx
   rcases hx with rfl | rfl
   · exact hu
   · exact hv
theorem lies1 (w : World) (u : Value) (t : TypeId) (hu : u.oneCell' = true) :
 (∀ (j : Nat) (x : Value), ([u] : List Value)[j]? = some x → (w.alloc (.cells #[u] t)).cell? ((⟨w.heap.size, 0, none⟩ : Addr).add j) = some x) ∧ (∀ x ∈ ([u] : List Value), x.oneCell' = true) := by
 refine ⟨fun j x hj => ?_, fun x hx => ?_⟩
 · match j, hj with
   | 0, hj => simp at hj; subst hj; simp [Addr.add, go_sem]
   | j + 1, hj => simp at hj
 · simp only [List.mem_cons, List.not_mem_nil, or_false] at hx
   rcases hx with rfl
   exact hu
theorem mkB_append (l m : List UInt8) : mkB l ++ mkB m = mkB (l ++ m) := by
 apply ba_ext; rw [ByteArray.data_append, Array.toList_append, mkB_data, mkB_data, mkB_data]
theorem extract_list (s : ByteArray) (a b : Nat) : (s.extract a b).data.toList = (s.data.toList.take b).drop a := by
 rw [ByteArray.data_extract, Array.toList_extract]
 simp [List.extract, List.drop_take]
theorem ne_empty (s : ByteArray) (h : s.size ≠ 0) : s.toList.isEmpty = false ∧ ¬ s.toList = [] := by
 have e : s.toList.length = s.size := by rw [ByteArray.toList_eq]; simp
 constructor
 · cases q : s.toList with
   | nil => rw [q] at e; simp at e; omega
   | cons => rfl
 · intro q; rw [q] at e; simp at e; omega
theorem new1 (W : World) (v : Value) (t : TypeId) : (W.alloc (.cells #[v] t)).cell? ⟨W.heap.size, 0, none⟩ = some v := by rw [World.cell?_alloc_new]; simp
theorem cellsS_append (l m : List ByteArray) : cellsS (l ++ m) = cellsS l ++ cellsS m := by simp [cellsS]
theorem Own.strs {V : World} {L : List Thing} {w : World} {E : TypeId} {A : Option Addr} {n cap : Nat} {l : List ByteArray} (H : Own V w (rowT E 1 (.slice A n cap) n (cellsS l) :: L)) : StrsAt w A l := by
 obtain ⟨A', cap', e, h, _⟩ := strsAt_own H.head
 injection e with e1 e2 e3
 subst e1
 exact h
theorem infoStr : (Tryz.prog.info? 9).map (fun i => (i.zero, i.size, i.bytes)) = some (some (.string ⟨#[]⟩), 1, 16) := by kernel_rfl
end Go.Proofs.YtoopdhgmdjienaaGreatDoor
namespace Go.Proofs.YtoopdhgmdjienaaGreatDoor
set_option linter.unusedVariables false
open Go.ChangeShapes Go.WideShapes Go.ChangeAt Go.RowKit Go.Joins
open Go.ChangeMaps (open_string shut_string)
theorem infoTlv : (Tryz.prog.info? 89).map (fun i => (i.zero, i.size, i.bytes)) = some (some (.agg #[.int .u8 0, .string ⟨#[]⟩]), 2, 24) := by kernel_rfl
theorem infoRef : (Tryz.prog.info? 77).map (fun i => (i.zero, i.size, i.bytes)) = some (some (.agg #[.int .u8 0, .string ⟨#[]⟩]), 2, 24) := by kernel_rfl
theorem strOf_two (n : Nat) (h : n < 65536) : strOfNums [((n / 256 : Nat) : Int), ((n % 256 : Nat) : Int)] = mkB (wordB n) := by
 apply ba_ext
 rw [strOfNums_data, mkB_data]
 simp only [List.map_cons, List.map_nil, Int.toNat_natCast]
 rfl
theorem rtwo_c (n : Nat) (h : n < 65536) (w : World) :
 Calls Tryz.prog 73 #[.int .i64 (n : Int)] w fun e w' => e = .returned (.string (mkB (wordB n))) ∧ Wider w w' := by
 have hc := run_convert_bytes_arg (P := Tryz.prog) (w.alloc (.cells #[.int .u8 ((n : Int) / 256), .int .u8 ((n : Int) % 256)] 5)) 24 5 Tryz.underlying24 Tryz.underlying5 w.heap.size 0 2 2 [((n / 256 : Nat) : Int), ((n % 256 : Nat) : Int)] rfl (fun i hi => by
  have e : i = 0 ∨ i = 1 := by omega
  rcases e with rfl | rfl
  · rw [World.cell?_alloc_new]; simp
  · rw [World.cell?_alloc_new]; simp) 9 Tryz.underlying9
 rw [strOf_two n h] at hc
 have m0 : (0 : Int) ≤ (n : Int) := by omega
 have m1 : (n : Int) / 256 % 256 = (n : Int) / 256 := by omega
 have m2 : (n : Int).tdiv 256 = (n : Int) / 256 := by rw [Int.tdiv_eq_ediv_of_nonneg m0]
 have m3 : (n : Int).tmod 256 = (n : Int) % 256 := by rw [Int.tmod_eq_emod_of_nonneg m0]
 have m4 : wrap64 ((n : Int) / 256) = (n : Int) / 256 := by unfold wrap64; omega
 have m5 : wrap64 ((n : Int) % 256) = (n : Int) % 256 := by unfold wrap64; omega
 go_enter Tryz.func73, Tryz.ntmps73
 go_wp2
 go_ret
 exact ⟨rfl, (Wider.refl w).alloc _⟩
theorem okA_upto (l : List AtN) (k : Nat) {c : Nat} (h : okA 0 (l.take k) = c) (hc : c ≠ 0) : okA 0 l = c := by
 rw [← List.take_append_drop k l, okA_append, if_neg (by rw [h]; exact hc), h]
theorem okT_upto (l : List ByteArray) (k : Nat) {c : Nat} (h : okT (l.take k) = c) (hc : c ≠ 0) : okT l = c := by
 rw [← List.take_append_drop k l, okT_append, if_neg (by rw [h]; exact hc), h]
theorem encA_bad {l : List AtN} {c : Nat} (h : okA 0 l = c) (hc : c ≠ 0) : encA l = ⟨#[]⟩ := by unfold encA; rw [if_neg (by rw [h]; exact hc)]
theorem encA_good {l : List AtN} (h : okA 0 l = 0) : encA l = mkB (bytsA l) := by unfold encA; rw [if_pos h]
theorem encT_bad {l : List ByteArray} {c : Nat} (h : okT l = c) (hc : c ≠ 0) : encT l = ⟨#[]⟩ := by unfold encT; rw [if_neg (by rw [h]; exact hc)]
theorem encT_good {l : List ByteArray} (h : okT l = 0) : encT l = mkB (bytsT l) := by unfold encT; rw [if_pos h]
theorem bytA_text (t : Nat) (s : ByteArray) (l : List UInt8) : mkB l ++ mkB [UInt8.ofNat t] ++ mkB (wordB s.size) ++ s = mkB (l ++ bytA ⟨t, s⟩) := by
 rw [mkB_append, mkB_append]
 apply ba_ext
 rw [ByteArray.data_append, Array.toList_append, mkB_data, mkB_data]
 simp [bytA]
theorem bytT_text (s : ByteArray) (l : List UInt8) : mkB l ++ mkB (wordB s.size) ++ s = mkB (l ++ bytT s) := by
 rw [mkB_append]
 apply ba_ext
 rw [ByteArray.data_append, Array.toList_append, mkB_data, mkB_data]
 simp [bytT]
theorem strOf_one (t : Nat) : strOfNums [(t : Int)] = mkB [UInt8.ofNat t] := by
 apply ba_ext
 rw [strOfNums_data, mkB_data]
 simp only [List.map_cons, List.map_nil, Int.toNat_natCast]
theorem conv1 (t : Nat) (W : World) (B : Nat) (h : W.cell? ⟨B, 0, none⟩ = some (.int .u8 (t : Int))) :
 (convert 24 9 (.slice (some ⟨B, 0, none⟩) 1 1)).run Tryz.prog W = .ok (.string (mkB [UInt8.ofNat t])) W := by
 have hc := run_convert_bytes_arg (P := Tryz.prog) W 24 5 Tryz.underlying24 Tryz.underlying5 B 0 1 1 [(t : Int)] rfl (fun i hi => by
  obtain rfl : i = 0 := by omega
  exact h) 9 Tryz.underlying9
 rw [strOf_one] at hc
 exact hc
theorem lastA_prev (l : List AtN) (j : Nat) (y : AtN) (h : l[j]? = some y) : lastA 0 (l.take (j + 1)) = y.t := by rw [take_next l j y h, lastA_snoc]
theorem keepA2 {V W : World} {a b : Addr} {u v : Value} {o : Obj} (h : W.cell? a = some u ∧ W.cell? b = some v ∧ Hid (Wider V W)) : (W.alloc o).cell? a = some u ∧ (W.alloc o).cell? b = some v ∧ Hid (Wider V (W.alloc o)) :=
 ⟨kalloc h.1, kalloc h.2.1, halloc2 h.2.2 o⟩
theorem keepW2 {V W w : World} {a b : Addr} {u v : Value} (h : W.cell? a = some u ∧ W.cell? b = some v ∧ Hid (Wider V W)) (g : Wider W w) : w.cell? a = some u ∧ w.cell? b = some v ∧ Hid (Wider V w) :=
 ⟨wkeep g h.1, wkeep g h.2.1, htrans h.2.2 g⟩
set_option maxRecDepth 8000 in
set_option maxHeartbeats 8000000 in
theorem renc_c (A : Option Addr) (n cap : Nat) (l : List AtN) (w : World) (h : AtsAt w A l) (hn : l.length = n) (hl : n < 1000000) (hb : (bytsA l).length < 1000000) {T : ByteArray} {r : Nat} (hT : encA l = T) (hr : okA 0 l = r) :
 Calls Tryz.prog 32 #[.slice A n cap] w fun e w' => e = .returned (.tuple #[.string T, .int .i64 (r : Int)]) ∧ Wider w w' := by
 have HN := Lib.hid hn
 have HT := Lib.hid hT
 have HR := Lib.hid hr
 have HB := Lib.hid hb
 clear hn hT hr hb
 go_enter Tryz.func32, Tryz.ntmps32
 go_wp2
 go_loopw [4, 5] (fun v i wr => ∃ k : Nat, k ≤ n ∧ i = .int .i64 (k : Int) ∧ (∃ S : ByteArray, v = .string S ∧ mkB (bytsA (l.take k)) = S) ∧ okA 0 (l.take k) = 0 ∧ Wider w wr) (fun _ i _ => n - (intOf i).toNat)
 case atStart => exact ⟨0, by omega, by simp, ⟨⟨#[]⟩, rfl, rfl⟩, rfl, Wider.refl w⟩
 case round =>
  obtain ⟨k, hk, rfl, ⟨S, rfl, hS⟩, hok, hg⟩ := hrel
  have HS := Lib.hid hS
  have HOK := Lib.hid hok
  have HG := Lib.hid hg
  clear hS hok
  by_cases c : k < n
  · have j0 : (0 : Int) ≤ (k : Int) := by omega
    have j1 : (k : Int) < (n : Int) := by omega
    obtain ⟨x, hx⟩ := next_some l k (by have := HN.out; omega)
    cases A with
    | none => exact absurd (h.none_ rfl) (by intro e; rw [e] at hx; simp at hx)
    | some a =>
      have H := Lib.hid h
      have TK := Lib.hid (take_next l k x hx)
      have HX := Lib.hid hx
      have SN := Lib.hid (okA_snoc (l.take k) 0 x HOK.out)
      obtain ⟨p, hp⟩ : ∃ p, lastA 0 (l.take k) = p := ⟨_, rfl⟩
      have HP := Lib.hid hp
      have hA := (h.cell a rfl k x hx).on hg
      clear hx h hp
      obtain ⟨t, s⟩ := x
      have ⟨c0, c1⟩ := hA
      have d1 := hA.flat
      simp only at c0 c1 d1
      obtain ⟨bad, hbad⟩ : ∃ b : Bool, decide (t ≤ p ∨ s.size = 0) = b := ⟨_, rfl⟩
      have HBAD := Lib.hid hbad
      clear hA hbad
      go_upto_region 5 with fail
      go_cut [43] (fun v wc => v = .bool bad ∧ Hid (Wider w wc))
      case first =>
       as_aux_lemma =>
       by_cases t0 : t = 0
       · have e0 : ((t : Int) == 0) = true := by rw [beq_iff_eq]; omega
         have hb : bad = true := by rw [← HBAD.out]; apply decide_eq_true; omega
         subst hb
         (go_quiet (fail); go_wp2_with fail; go_meet; exact ⟨rfl, HG.out.drewN _⟩)
       · have e0 : ((t : Int) == 0) = false := by rw [beq_eq_false_iff_ne]; omega
         by_cases k0 : k = 0
         · have e1 : decide ((0 : Int) < (k : Int)) = false := decide_eq_false (by omega)
           have e1n : decide (0 < k) = false := decide_eq_false (by omega)
           have hp0 : Hid (p = 0) := by show p = 0; rw [← HP.out, k0]; rfl
           have k1 := Lib.hid k0
           clear k0
           by_cases sz : s.size = 0
           · have hb : bad = true := by rw [← HBAD.out]; apply decide_eq_true; omega
             subst hb
             obtain rfl : s = ByteArray.empty := by apply ba_ext; exact List.eq_nil_of_length_eq_zero (by rw [← size_data]; exact sz)
             (go_quiet (fail); go_wp2_with fail; go_meet; exact ⟨rfl, HG.out.drewN _⟩)
           · have hb : bad = false := by rw [← HBAD.out]; apply decide_eq_false; (try have := hp0.out); omega
             subst hb
             have s1 := ne_empty s sz
             have s2 := s1.1
             have s3 := s1.2
             clear s1
             (go_quiet (fail); go_wp2_with fail; go_meet; exact ⟨rfl, HG.out.drewN _⟩)
         · obtain ⟨j, hj⟩ : ∃ j, k = j + 1 := ⟨k - 1, by omega⟩
           have e1 : decide ((0 : Int) < (k : Int)) = true := decide_eq_true (by omega)
           have e1n : decide (0 < k) = true := decide_eq_true (by omega)
           obtain ⟨y, hy⟩ := next_some l j (by have := HN.out; omega)
           have hB := (H.out.cell a rfl j y hy).on HG.out
           have hp0 := lastA_prev l j y hy
           rw [← hj, HP.out] at hp0
           obtain ⟨u, v⟩ := y
           have ⟨b0, b1⟩ := hB
           simp only at b0 b1 hp0
           clear hy hB b1
           subst hp0
           have i0 : (0 : Int) ≤ (k : Int) - 1 := by omega
           have i1 : (k : Int) - 1 < (n : Int) := by omega
           have i2 : ((k : Int) - 1).toNat = j := by omega
           clear hj
           by_cases le : t ≤ p
           · have e2 : decide ((t : Int) ≤ (p : Int)) = true := decide_eq_true (by omega)
             have e3 : decide (t ≤ p) = true := decide_eq_true (by omega)
             have hb : bad = true := by rw [← HBAD.out]; apply decide_eq_true; omega
             subst hb
             (go_quiet (fail); go_wp2_with fail; go_meet; exact ⟨rfl, HG.out.drewN _⟩)
           · have e2 : decide ((t : Int) ≤ (p : Int)) = false := decide_eq_false (by omega)
             have e3 : decide (t ≤ p) = false := decide_eq_false (by omega)
             by_cases sz : s.size = 0
             · have hb : bad = true := by rw [← HBAD.out]; apply decide_eq_true; omega
               subst hb
               obtain rfl : s = ByteArray.empty := by apply ba_ext; exact List.eq_nil_of_length_eq_zero (by rw [← size_data]; exact sz)
               (go_quiet (fail); go_wp2_with fail; go_meet; exact ⟨rfl, HG.out.drewN _⟩)
             · have hb : bad = false := by rw [← HBAD.out]; apply decide_eq_false; omega
               subst hb
               have s1 := ne_empty s sz
               have s2 := s1.1
               have s3 := s1.2
               clear s1
               (go_quiet (fail); go_wp2_with fail; go_meet; exact ⟨rfl, HG.out.drewN _⟩)
      case rest =>
       clear hg c0 c1 d1 HG
       obtain ⟨rfl, HG⟩ := hcut
       obtain ⟨c0, c1⟩ := (H.out.cell a rfl k _ HX.out).on HG.out
       have d1 := AtAt.flat ⟨c0, c1⟩
       simp only at c0 c1 d1
       have SN2 := SN.out
       rw [← TK.out, HP.out] at SN2
       simp only at SN2
       cases bad with
       | true =>
         rw [if_pos (of_decide_eq_true HBAD.out)] at SN2
         have R3 := okA_upto l (k + 1) SN2 (by decide)
         have e1 : r = 3 := by rw [← HR.out, R3]
         have e2 : T = ⟨#[]⟩ := by rw [← HT.out, encA_bad R3 (by decide)]
         subst e1 e2
         clear SN2 R3
         go_wp2
         go_ret2
         exact ⟨rfl, HG.out⟩
       | false =>
         rw [if_neg (of_decide_eq_false HBAD.out)] at SN2
         by_cases z : 65535 < s.size
         · rw [if_pos z] at SN2
           have R3 := okA_upto l (k + 1) SN2 (by decide)
           have e1 : r = 5 := by rw [← HR.out, R3]
           have e2 : T = ⟨#[]⟩ := by rw [← HT.out, encA_bad R3 (by decide)]
           subst e1 e2
           have z1 : decide ((65535 : Int) < (s.size : Int)) = true := decide_eq_true (by omega)
           have z2 : decide (65535 < s.size) = true := decide_eq_true z
           clear SN2 R3
           go_wp2
           go_ret2
           exact ⟨rfl, HG.out⟩
         · rw [if_neg z] at SN2
           have SN3 := Lib.hid SN2
           have z1 : decide ((65535 : Int) < (s.size : Int)) = false := decide_eq_false (by omega)
           have z2 : decide (65535 < s.size) = false := decide_eq_false z
           have hz : s.size < 65536 := by omega
           obtain ⟨B2, hB2⟩ : ∃ B2, mkB (bytsA (l.take (k + 1))) = B2 := ⟨_, rfl⟩
           have hlen : (bytsA (l.take (k + 1))).length < 1000000 := by
            have := HB.out
            have e : bytsA l = bytsA (l.take (k + 1)) ++ bytsA (l.drop (k + 1)) := by rw [← bytsA_append, List.take_append_drop]
            rw [e, List.length_append] at this
            omega
           have e3 : bytsA (l.take (k + 1)) = bytsA (l.take k) ++ bytA ⟨t, s⟩ := by rw [TK.out, bytsA_snoc]
           have hla : (bytA ⟨t, s⟩).length = 3 + s.size := bytA_length _
           have hS3 : S.size = (bytsA (l.take k)).length := by rw [← HS.out, mkB_size]
           rw [e3, List.length_append, hla, ← hS3] at hlen
           have hX : S ++ mkB [UInt8.ofNat t] ++ mkB (wordB s.size) ++ s = B2 := by rw [← HS.out, bytA_text, ← e3, hB2]
           have y1 : (mkB [UInt8.ofNat t]).size = 1 := by rw [mkB_size]; rfl
           have y2 : (mkB (wordB s.size)).size = 2 := by rw [mkB_size]; rfl
           obtain ⟨Y1, hY1⟩ : ∃ Y, mkB [UInt8.ofNat t] = Y := ⟨_, rfl⟩
           obtain ⟨Y2, hY2⟩ : ∃ Y, mkB (wordB s.size) = Y := ⟨_, rfl⟩
           have hcv := fun (W : World) (B : Nat) (h : W.cell? ⟨B, 0, none⟩ = some (.int .u8 (t : Int))) => conv1 t W B h
           have z3 := fun W : World => rtwo_c s.size hz W
           rw [hY1] at hX y1 hcv
           rw [hY2] at hX y2 z3
           have ha1 : ∀ W : World, (Op.stringOp .add S Y1).run Tryz.prog W = .ok (.string (S ++ Y1)) W := fun W => run_string_add_sum W _ _ (by omega)
           have ha2 : ∀ W : World, (Op.stringOp .add (S ++ Y1) Y2).run Tryz.prog W = .ok (.string (S ++ Y1 ++ Y2)) W := fun W => run_string_add_sum W _ _ (by rw [ByteArray.size_append]; omega)
           have ha3 : ∀ W : World, (Op.stringOp .add (S ++ Y1 ++ Y2) s).run Tryz.prog W = .ok (.string B2) W := fun W => by rw [run_string_add_sum W _ _ (by rw [ByteArray.size_append, ByteArray.size_append]; omega), hX]
           have HB2 := Lib.hid hB2
           clear hX hY1 hY2 hlen hla hS3 e3 y1 y2 hB2 SN2
           go_upto_region 9 with fail
           go_region_held (fun w' => w'.cell? (a.add (k * 2)) = some (.int .u8 (t : Int)) ∧ w'.cell? ⟨(a.add (k * 2)).block, (a.add (k * 2)).off + 1, none⟩ = some (.string s) ∧ Hid (Wider w w'))
            (first | assumption | exact ⟨c0, d1, HG⟩ | exact keepA2 (by assumption) | exact keepW2 (by assumption) (by assumption))
            (first
             | (go_at_call 73; ((with_reducible refine (z3 _).mono ?_); rintro e w' ⟨rfl, g'⟩; (try (have q0 := wkeep g' (new1 wc (.int .u8 (t : Int)) 5))))))
           all_goals
            (with_reducible have HE := Lib.hid (by assumption : _ ∧ _ ∧ Hid (Wider w _)))
            go_wp2
            go_roundw
            case rel => exact ⟨k + 1, by omega, by go_num, ⟨B2, rfl, HB2.out⟩, SN3.out, HE.out.2.2.out⟩
            case measure => simp [intOf]; omega
  · obtain rfl : k = n := by omega
    have e := HS.out
    have e0 := HOK.out
    rw [List.take_of_length_le (by have := HN.out; omega)] at e e0
    have e1 : r = 0 := by rw [← HR.out, e0]
    have e2 : T = S := by rw [← HT.out, encA_good e0, e]
    subst e1 e2
    clear e e0
    go_wp2
    go_ret2
    exact ⟨rfl, hg⟩
end Go.Proofs.YtoopdhgmdjienaaGreatDoor
