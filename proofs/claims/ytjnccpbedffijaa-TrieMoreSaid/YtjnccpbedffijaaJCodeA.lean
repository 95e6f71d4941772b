/- Package trie: its small calls: by walks of its code. -/
import Derived.Test.YtjnccpbedffijaaFAny
import Derived.Test.YtjnccpbedffijaaJKey
import Derived.Test.YtjnccpbedffijaaJTree
import Derived.Test.YtjnccpbedffijaaQuiet
namespace Go.Proofs.Ytjnccpbedffijaa
set_option linter.unusedVariables false
open Go.ChangeShapes Go.WideShapes Go.ChangeAt Go.RowKit Go.Joins

theorem fldW_one (s : ByteArray) (a : Nat) : fldW s a 1 = BitVec.ofNat 128 (bitS s a) := by
  unfold fldW
  congr 1
  show 2 * fldN s a 0 + bitS s (a + 0) = bitS s a
  show 2 * 0 + _ = _
  simp
theorem getJ_in (key : ByteArray) (a : Nat) (h : a < 8 * key.size) : GetR key (a : Int) 1 0 (bitS key a : Int) 0 :=
  ⟨errF_of (n := 1) (by omega) (by omega) (by omega), fun _ => by
    show IsW 0 _ (fldW key a 1)
    rw [fldW_one]; exact isW_bit (bitS_le key a), fun e => absurd rfl e⟩
theorem getJ_out (key : ByteArray) (a : Nat) (h : ¬ a < 8 * key.size) : GetR key (a : Int) 1 0 0 4 :=
  ⟨by unfold errF; rw [if_neg (by omega), if_pos (by omega)], fun e => absurd e (by decide), fun _ => ⟨rfl, rfl⟩⟩
/-- The bit at a place, or 0 behind the end. -/
def bitN (key : ByteArray) (a : Nat) : Nat := if a < 8 * key.size then bitS key a else 0
theorem bitN_le (key : ByteArray) (a : Nat) : bitN key a ≤ 1 := by unfold bitN; split; exact bitS_le _ _; omega
theorem jbit_c (key : ByteArray) (a : Nat) (hk : key.size < 1000000) (ha : a < 1000000000) {l : Int} {is : Bool} (hl : (bitN key a : Int) = l) (his : decide (a < 8 * key.size) = is) (w : World) :
    Calls Try.prog 32 #[.string key, .int .i64 (a : Int)] w fun e w' => e = .returned (.tuple #[.int .u64 l, .bool is]) ∧ Wider w w' := by
  by_cases c : a < 8 * key.size
  · have zg := fun w => get_g key (a : Int) 1 (by omega) (by omega) (by omega) (by omega) (by omega) (getJ_in key a c) w
    have e1 : (bitS key a : Int) = l := by rw [← hl]; unfold bitN; rw [if_pos c]
    rw [e1] at zg
    have e2 : is = true := by rw [← his]; simp [c]
    subst e2
    clear hl his c e1
    go_enter Try.func32, Try.ntmps32
    go_wp2_with (first
      | (go_at_call 35; ((with_reducible refine (zg _).mono ?_); rintro e w3 ⟨rfl, g⟩)))
    go_ret2
    exact ⟨rfl, g.wider.alloc _⟩
  · have zg := fun w => get_g key (a : Int) 1 (by omega) (by omega) (by omega) (by omega) (by omega) (getJ_out key a c) w
    have e1 : l = 0 := by rw [← hl]; unfold bitN; rw [if_neg c]; rfl
    have e2 : is = false := by rw [← his]; simp [c]
    subst e1 e2
    clear hl his c
    go_enter Try.func32, Try.ntmps32
    go_wp2_with (first
      | (go_at_call 35; ((with_reducible refine (zg _).mono ?_); rintro e w3 ⟨rfl, g⟩)))
    go_ret2
    exact ⟨rfl, g.wider.alloc _⟩

/-! ### The next node -/
theorem add0 (B : Nat) : (⟨B, 0, none⟩ : Addr).add 0 = ⟨B, 0, none⟩ := by simp [Addr.add]
def childJ (d : Bool) (l r : TB) : TB := if d then r else l
/-- Where there is no such bit: none. -/
theorem jnext_none (key : ByteArray) (a : Nat) (hk : key.size < 1000000) (ha : a < 1000000000) (c : ¬ a < 8 * key.size) (p : Value) (w : World) :
    Calls Try.prog 26 #[p, .string key, .int .i64 (a : Int)] w fun e w' => e = .returned (.pointer none) ∧ Wider w w' := by
  have zb := fun w => jbit_c key a hk ha (l := 0) (is := false) (by unfold bitN; rw [if_neg c]; rfl) (by simp [c]) w
  clear c
  go_enter Try.func26, Try.ntmps26
  go_wp2_with (first
    | (go_at_call 32; ((with_reducible refine (zb _).mono ?_); rintro e w3 ⟨rfl, g⟩)))
  go_ret
  exact ⟨rfl, g⟩
theorem jnext_c (key : ByteArray) (a : Nat) (hk : key.size < 1000000) (ha : a < 1000000000) (c : a < 8 * key.size) {B : Nat} {cn v : Option Int} {l r : TB} {d : Bool} (hd : bitS key a = d.toNat) {w : World}
    (h : w.heap[B]? = some (.cells (cellsJ cn v l.ptr r.ptr) (tyJ cn) (0, 0))) :
    Calls Try.prog 26 #[.pointer (some ⟨B, 0, none⟩), .string key, .int .i64 (a : Int)] w fun e w' => e = .returned (childJ d l r).ptr ∧ Wider w w' := by
  have zb := fun w => jbit_c key a hk ha (l := (d.toNat : Int)) (is := true) (by unfold bitN; rw [if_pos c, hd]) (by simp [c]) w
  have c0 := blk_cell h 0 (cellsJ_0 cn v l.ptr r.ptr)
  have c1 := blk_cell h 1 (cellsJ_1 cn v l.ptr r.ptr)
  clear c h hd
  cases d
  · have zb : ∀ w, Calls Try.prog 32 #[.string key, .int .i64 (a : Int)] w fun e w' => e = .returned (.tuple #[.int .u64 0, .bool true]) ∧ Wider w w' := zb
    go_enter Try.func26, Try.ntmps26
    go_wp2_with (first
      | (go_at_call 32; ((with_reducible refine (zb _).mono ?_); rintro e w3 ⟨rfl, g⟩; replace c0 := wkeep g c0)))
    go_ret
    exact ⟨rfl, g⟩
  · have zb : ∀ w, Calls Try.prog 32 #[.string key, .int .i64 (a : Int)] w fun e w' => e = .returned (.tuple #[.int .u64 1, .bool true]) ∧ Wider w w' := zb
    go_enter Try.func26, Try.ntmps26
    go_wp2_with (first
      | (go_at_call 32; ((with_reducible refine (zb _).mono ?_); rintro e w3 ⟨rfl, g⟩; replace c1 := wkeep g c1)))
    go_ret
    exact ⟨rfl, g⟩
/-- A node without anything, as it is built. -/
abbrev freshC : Array Value := #[.pointer none, .pointer none, .int .i64 0, .bool false]
theorem Own.fresh {V w : World} {R : List Thing} (H : Own V w R) : Own V (w.alloc (.cells freshC 27)) (treeT (.node w.heap.size none none .nil .nil) :: R) :=
  (H.blk freshC 27).noTree.noTree.third.treeShut rfl rfl
theorem jreach_l (key : ByteArray) (a : Nat) (hk : key.size < 1000000) (ha : a < 1000000000) (c : a < 8 * key.size) {B : Nat} {cn v : Option Int} {l r : TB} {V w : World} {R : List Thing} (hd : bitS key a = 0)
    (H : Own V w (treeT (.node B cn v l r) :: R)) :
    Calls Try.prog 25 #[.pointer (some ⟨B, 0, none⟩), .string key, .int .i64 (a : Int)] w fun e w' => ∃ N c2 v2 l2 r2, e = .returned (.pointer (some ⟨N, 0, none⟩)) ∧
      Own V w' (treeT (.node N c2 v2 l2 r2) :: nodeT B cn v (.pointer (some ⟨N, 0, none⟩)) r.ptr :: treeT r :: R) ∧ (Tr.node v2 l2.tr r2.tr = l.tr ∨ (l.tr = .nil ∧ Tr.node v2 l2.tr r2.tr = .node none .nil .nil)) := by
  have zb : ∀ w, Calls Try.prog 32 #[.string key, .int .i64 (a : Int)] w fun e w' => e = .returned (.tuple #[.int .u64 0, .bool true]) ∧ Wider w w' := fun w => jbit_c key a hk ha (l := 0) (is := true) (by unfold bitN; rw [if_pos c, hd]; rfl) (by simp [c]) w
  have H1 := H.treeOpen
  clear H c hd
  cases l with
  | nil =>
    have c0 : w.cell? ⟨B, 0, none⟩ = some (.pointer none) := blk_cell H1.head 0 (cellsJ_0 cn v TB.nil.ptr r.ptr)
    go_enter Try.func25, Try.ntmps25
    go_upto_region 3 with (first
      | (go_at_call 32; ((with_reducible refine (zb _).mono ?_); rintro e w3 ⟨rfl, g⟩; replace c0 := wkeep g c0; replace H1 := H1.quiet g)))
    have H2 := H1.swap.drop.fresh
    have H3 := H2.swap.store 0 (.pointer (some ⟨w3.heap.size, 0, none⟩))
    rw [cellsJ_set0] at H3
    have f0 := blk_free H2.second 0
    have c1 : (w3.alloc (.cells freshC 27)).cell? ⟨B, 0, none⟩ = some (.pointer none) := kalloc c0
    have c2 := blk_cell H3.head 0 (cellsJ_0 cn v (.pointer (some ⟨w3.heap.size, 0, none⟩)) r.ptr)
    go_wp2
    go_ret
    exact ⟨w3.heap.size, none, none, .nil, .nil, rfl, H3.swap, .inr ⟨rfl, rfl⟩⟩
  | node N c2 v2 l2 r2 =>
    have c0 : w.cell? ⟨B, 0, none⟩ = some (.pointer (some ⟨N, 0, none⟩)) := blk_cell H1.head 0 (cellsJ_0 cn v (TB.node N c2 v2 l2 r2).ptr r.ptr)
    go_enter Try.func25, Try.ntmps25
    go_wp2_with (first
      | (go_at_call 32; ((with_reducible refine (zb _).mono ?_); rintro e w3 ⟨rfl, g⟩; replace c0 := wkeep g c0; replace H1 := H1.quiet g)))
    go_ret
    exact ⟨N, c2, v2, l2, r2, rfl, H1.swap, .inl rfl⟩
theorem jreach_r (key : ByteArray) (a : Nat) (hk : key.size < 1000000) (ha : a < 1000000000) (c : a < 8 * key.size) {B : Nat} {cn v : Option Int} {l r : TB} {V w : World} {R : List Thing} (hd : bitS key a = 1)
    (H : Own V w (treeT (.node B cn v l r) :: R)) :
    Calls Try.prog 25 #[.pointer (some ⟨B, 0, none⟩), .string key, .int .i64 (a : Int)] w fun e w' => ∃ N c2 v2 l2 r2, e = .returned (.pointer (some ⟨N, 0, none⟩)) ∧
      Own V w' (treeT (.node N c2 v2 l2 r2) :: nodeT B cn v l.ptr (.pointer (some ⟨N, 0, none⟩)) :: treeT l :: R) ∧ (Tr.node v2 l2.tr r2.tr = r.tr ∨ (r.tr = .nil ∧ Tr.node v2 l2.tr r2.tr = .node none .nil .nil)) := by
  have zb : ∀ w, Calls Try.prog 32 #[.string key, .int .i64 (a : Int)] w fun e w' => e = .returned (.tuple #[.int .u64 1, .bool true]) ∧ Wider w w' := fun w => jbit_c key a hk ha (l := 1) (is := true) (by unfold bitN; rw [if_pos c, hd]; rfl) (by simp [c]) w
  have H1 := H.treeOpen
  clear H c hd
  cases r with
  | nil =>
    have c0 : w.cell? ⟨B, 1, none⟩ = some (.pointer none) := blk_cell H1.head 1 (cellsJ_1 cn v l.ptr TB.nil.ptr)
    go_enter Try.func25, Try.ntmps25
    go_upto_region 3 with (first
      | (go_at_call 32; ((with_reducible refine (zb _).mono ?_); rintro e w3 ⟨rfl, g⟩; replace c0 := wkeep g c0; replace H1 := H1.quiet g)))
    have H2 := H1.swap2.swap.drop.fresh
    have H3 := H2.swap.store 1 (.pointer (some ⟨w3.heap.size, 0, none⟩))
    rw [cellsJ_set1] at H3
    have f0 := blk_free H2.second 1
    have c1 : (w3.alloc (.cells freshC 27)).cell? ⟨B, 1, none⟩ = some (.pointer none) := kalloc c0
    have c2 := blk_cell H3.head 1 (cellsJ_1 cn v l.ptr (.pointer (some ⟨w3.heap.size, 0, none⟩)))
    go_wp2
    go_ret
    exact ⟨w3.heap.size, none, none, .nil, .nil, rfl, H3.swap, .inr ⟨rfl, rfl⟩⟩
  | node N c2 v2 l2 r2 =>
    have c0 : w.cell? ⟨B, 1, none⟩ = some (.pointer (some ⟨N, 0, none⟩)) := blk_cell H1.head 1 (cellsJ_1 cn v l.ptr (TB.node N c2 v2 l2 r2).ptr)
    go_enter Try.func25, Try.ntmps25
    go_wp2_with (first
      | (go_at_call 32; ((with_reducible refine (zb _).mono ?_); rintro e w3 ⟨rfl, g⟩; replace c0 := wkeep g c0; replace H1 := H1.quiet g)))
    go_ret
    exact ⟨N, c2, v2, l2, r2, rfl, (H1.third.swap2).swap2, .inl rfl⟩
/-- A step down: the new way, and what it says. -/
theorem jreach_c (key : ByteArray) (a : Nat) (hk : key.size < 1000000) (ha : a < 1000000000) (c : a < 8 * key.size) {B : Nat} {cn v : Option Int} {l r : TB} {V w : World} {R : List Thing} {d : Bool} (hd : bitS key a = d.toNat) {C : List Fr}
    (H : Own V w (treeT (.node B cn v l r) :: (ctxL C (.pointer (some ⟨B, 0, none⟩)) ++ R))) :
    Calls Try.prog 25 #[.pointer (some ⟨B, 0, none⟩), .string key, .int .i64 (a : Int)] w fun e w' => ∃ N c2 v2 l2 r2 s, e = .returned (.pointer (some ⟨N, 0, none⟩)) ∧
      Own V w' (treeT (.node N c2 v2 l2 r2) :: (ctxL (⟨d, B, cn, v, s⟩ :: C) (.pointer (some ⟨N, 0, none⟩)) ++ R)) ∧ s = childJ (!d) l r ∧ (Tr.node v2 l2.tr r2.tr = (childJ d l r).tr ∨ ((childJ d l r).tr = .nil ∧ Tr.node v2 l2.tr r2.tr = .node none .nil .nil)) := by
  cases d
  · exact (jreach_l key a hk ha c hd H).mono fun e w' ⟨N, c2, v2, l2, r2, he, h1, h2⟩ => ⟨N, c2, v2, l2, r2, r, he, h1, rfl, h2⟩
  · exact (jreach_r key a hk ha c hd H).mono fun e w' ⟨N, c2, v2, l2, r2, he, h1, h2⟩ => ⟨N, c2, v2, l2, r2, l, he, h1, rfl, h2⟩
theorem jempty_c {w : World} {B : Nat} {cn v : Option Int} {l r : TB} (h : w.heap[B]? = some (.cells (cellsJ cn v l.ptr r.ptr) (tyJ cn) (0, 0))) {b : Bool} (hb : (v.isNone && (l.tr.isNil && r.tr.isNil)) = b) :
    Calls Try.prog 33 #[.pointer (some ⟨B, 0, none⟩)] w fun e w' => e = .returned (.bool b) ∧ Wider w w' := by
  have c0 := blk_cell h 0 (cellsJ_0 cn v l.ptr r.ptr)
  have c1 := blk_cell h 1 (cellsJ_1 cn v l.ptr r.ptr)
  have c3 := blk_cell h 3 (cellsJ_3 cn v l.ptr r.ptr)
  clear h
  subst hb
  have e00 : (Op.equalIn 10000 25 (.agg #[.pointer none, .pointer none]) (.agg #[.pointer none, .pointer none])).run Try.prog w = .ok true w := by kernel_rfl
  have e01 : ∀ B, (Op.equalIn 10000 25 (.agg #[.pointer none, .pointer (some ⟨B, 0, none⟩)]) (.agg #[.pointer none, .pointer none])).run Try.prog w = .ok false w := fun B => by kernel_rfl
  have e10 : ∀ B, (Op.equalIn 10000 25 (.agg #[.pointer (some ⟨B, 0, none⟩), .pointer none]) (.agg #[.pointer none, .pointer none])).run Try.prog w = .ok false w := fun B => by kernel_rfl
  have e11 : ∀ B C, (Op.equalIn 10000 25 (.agg #[.pointer (some ⟨B, 0, none⟩), .pointer (some ⟨C, 0, none⟩)]) (.agg #[.pointer none, .pointer none])).run Try.prog w = .ok false w := fun B C => by kernel_rfl
  cases v <;> cases l <;> cases r <;> simp only [TB.ptr, Option.isSome_none, Option.isSome_some] at c0 c1 c3
  all_goals
    go_enter Try.func33, Try.ntmps33
    go_wp2
    go_ret
    exact ⟨rfl, Wider.refl w⟩
end Go.Proofs.Ytjnccpbedffijaa
