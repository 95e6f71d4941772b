/- Texts that belong together, one behind the other: TBulk THelp TRef TRefB TRefC TRefD TRefE. -/
import Derived.Test.YtlldgmdgogkdiaaOpen
import Derived.Test.YtlldgmdgogkdiaaRowsG
import Derived.WalkKit
import Derived.Lib.Hide
import Derived.Deep.DeepCutAuto
import Derived.WalkLawsBesides
import Derived.WalkSpells
import Derived.BigQuiet
import Derived.BigRegion
import Derived.Deep.RegionHeld3
import Derived.Test.YtlldgmdgogkdiaaBlk
import Derived.Deep.RegionLaw

/- How much attributes and texts are as the statements reckon it; the document's Same and Texts: by walks. -/
namespace Go.Proofs.Ytlldgmdgogkdiaa
set_option linter.unusedVariables false
open Go.ChangeShapes Go.WideShapes Go.ChangeAt Go.RowKit Go.Joins
open Go.ChangeMaps (open_string shut_string)


/-- How much it is, as the statements reckon it. -/
def bulkA (l : List AtN) : Nat := (l.map fun x => 10 + min 100000 x.v.size).sum
theorem bulkA_snoc (l : List AtN) (x : AtN) : bulkA (l ++ [x]) = bulkA l + (10 + min 100000 x.v.size) := by unfold bulkA; simp
theorem bulkA_append (l m : List AtN) : bulkA (l ++ m) = bulkA l + bulkA m := by unfold bulkA; simp
theorem bulkA_take (l : List AtN) (k : Nat) : bulkA (l.take k) ≤ bulkA l := by
  have e : bulkA l = bulkA (l.take k) + bulkA (l.drop k) := by rw [← bulkA_append, List.take_append_drop]
  omega
theorem bulkA_len (l : List AtN) : 10 * l.length ≤ bulkA l := by
  unfold bulkA
  induction l with
  | nil => simp
  | cons s l ih => simp only [List.map_cons, List.sum_cons, List.length_cons]; omega

/-- How much it is, as the statements reckon it. -/
def bulkS (l : List ByteArray) : Nat := (l.map fun x => 10 + min 100000 x.size).sum
theorem bulkS_snoc (l : List ByteArray) (x : ByteArray) : bulkS (l ++ [x]) = bulkS l + (10 + min 100000 x.size) := by unfold bulkS; simp
theorem bulkS_append (l m : List ByteArray) : bulkS (l ++ m) = bulkS l + bulkS m := by unfold bulkS; simp
theorem bulkS_take (l : List ByteArray) (k : Nat) : bulkS (l.take k) ≤ bulkS l := by
  have e : bulkS l = bulkS (l.take k) + bulkS (l.drop k) := by rw [← bulkS_append, List.take_append_drop]
  omega
theorem bulkS_len (l : List ByteArray) : 10 * l.length ≤ bulkS l := by
  unfold bulkS
  induction l with
  | nil => simp
  | cons s l ih => simp only [List.map_cons, List.sum_cons, List.length_cons]; omega

theorem bytsA_len (l : List AtN) : l.length ≤ (bytsA l).length ∧ ∀ x ∈ l, x.v.size ≤ (bytsA l).length := by
  induction l with
  | nil => simp [bytsA_nil]
  | cons a l ih =>
    rw [bytsA_cons, List.length_append, bytA_length]
    refine ⟨by simp only [List.length_cons]; omega, fun x hx => ?_⟩
    rcases List.mem_cons.1 hx with rfl | hx
    · omega
    · have := ih.2 x hx; omega

theorem bytsT_len (l : List ByteArray) : 2 * l.length ≤ (bytsT l).length ∧ ∀ x ∈ l, x.size ≤ (bytsT l).length := by
  induction l with
  | nil => simp [bytsT_nil]
  | cons a l ih =>
    rw [bytsT_cons, List.length_append, bytT_length]
    refine ⟨by simp only [List.length_cons]; omega, fun x hx => ?_⟩
    rcases List.mem_cons.1 hx with rfl | hx
    · omega
    · have := ih.2 x hx; omega
theorem bulkA_bytes (l : List AtN) (h : bulkA l < 100000) : (bytsA l).length ≤ bulkA l := by
  induction l with
  | nil => simp [bytsA_nil]
  | cons a l ih =>
    have e : bulkA (a :: l) = (10 + min 100000 a.v.size) + bulkA l := by simp [bulkA]
    rw [e] at h ⊢
    rw [bytsA_cons, List.length_append, bytA_length]
    have := ih (by omega)
    omega
theorem bulkS_bytes (l : List ByteArray) (h : bulkS l < 100000) : (bytsT l).length ≤ bulkS l := by
  induction l with
  | nil => simp [bytsT_nil]
  | cons a l ih =>
    have e : bulkS (a :: l) = (10 + min 100000 a.size) + bulkS l := by simp [bulkS]
    rw [e] at h ⊢
    rw [bytsT_cons, List.length_append, bytT_length]
    have := ih (by omega)
    omega
theorem bulkA_each (l : List AtN) (h : bulkA l < 100000) : ∀ x ∈ l, x.v.size < 100000 := by
  induction l with
  | nil => simp
  | cons a l ih =>
    have e : bulkA (a :: l) = (10 + min 100000 a.v.size) + bulkA l := by simp [bulkA]
    rw [e] at h
    intro x hx
    rcases List.mem_cons.1 hx with rfl | hx
    · omega
    · exact ih (by omega) x hx
theorem bulkS_each (l : List ByteArray) (h : bulkS l < 100000) : ∀ x ∈ l, x.size < 100000 := by
  induction l with
  | nil => simp
  | cons a l ih =>
    have e : bulkS (a :: l) = (10 + min 100000 a.size) + bulkS l := by simp [bulkS]
    rw [e] at h
    intro x hx
    rcases List.mem_cons.1 hx with rfl | hx
    · omega
    · exact ih (by omega) x hx

end Go.Proofs.Ytlldgmdgogkdiaa

/- The helpers of the statements of layer 6, and the document's Same and Texts: by walks. -/
namespace Go.Proofs.Ytlldgmdgogkdiaa
set_option linter.unusedVariables false
open Go.ChangeShapes Go.WideShapes Go.ChangeAt Go.RowKit Go.Joins
open Go.ChangeMaps (open_string shut_string)

theorem infoTlv : (Try.prog.info? 105).map (fun i => (i.zero, i.size, i.bytes)) = some (some (.agg #[.int .u8 0, .string ⟨#[]⟩]), 2, 24) := by kernel_rfl
end Go.Proofs.Ytlldgmdgogkdiaa

/- The document's answers of layer 6: by walks. -/
namespace Go.Proofs.Ytlldgmdgogkdiaa
set_option linter.unusedVariables false
open Go.ChangeShapes Go.WideShapes Go.ChangeAt Go.RowKit Go.Joins
open Go.ChangeMaps (open_string shut_string)


theorem strOf_two (n : Nat) (h : n < 65536) : strOfNums [((n / 256 : Nat) : Int), ((n % 256 : Nat) : Int)] = mkB (wordB n) := by
  apply ba_ext
  rw [strOfNums_data, mkB_data]
  simp only [List.map_cons, List.map_nil, Int.toNat_natCast]
  rfl
theorem unword_int (a b : UInt8) : (a.toNat : Int) * 256 + (b.toNat : Int) = (unword a b : Int) := by unfold unword; omega
end Go.Proofs.Ytlldgmdgogkdiaa

/- The document's Encode and List of layer 6: by walks. -/
namespace Go.Proofs.Ytlldgmdgogkdiaa
set_option linter.unusedVariables false
open Go.ChangeShapes Go.WideShapes Go.ChangeAt Go.RowKit Go.Joins
open Go.ChangeMaps (open_string shut_string)


theorem okA_upto (l : List AtN) (k : Nat) {c : Nat} (h : okA 0 (l.take k) = c) (hc : c ≠ 0) : okA 0 l = c := by
  rw [← List.take_append_drop k l, okA_append, if_neg (by rw [h]; exact hc), h]
theorem okT_upto (l : List ByteArray) (k : Nat) {c : Nat} (h : okT (l.take k) = c) (hc : c ≠ 0) : okT l = c := by
  rw [← List.take_append_drop k l, okT_append, if_neg (by rw [h]; exact hc), h]
theorem encA_bad {l : List AtN} {c : Nat} (h : okA 0 l = c) (hc : c ≠ 0) : encA l = ⟨#[]⟩ := by unfold encA; rw [if_neg (by rw [h]; exact hc)]
theorem encA_good {l : List AtN} (h : okA 0 l = 0) : encA l = mkB (bytsA l) := by unfold encA; rw [if_pos h]
theorem encT_bad {l : List ByteArray} {c : Nat} (h : okT l = c) (hc : c ≠ 0) : encT l = ⟨#[]⟩ := by unfold encT; rw [if_neg (by rw [h]; exact hc)]
theorem encT_good {l : List ByteArray} (h : okT l = 0) : encT l = mkB (bytsT l) := by unfold encT; rw [if_pos h]
theorem bytA_text (t : Nat) (s : ByteArray) (l : List UInt8) : mkB l ++ mkB [UInt8.ofNat t] ++ mkB (wordB s.size) ++ s = mkB (l ++ bytA ⟨t, s⟩) := by
  rw [mkB_append, mkB_append]
  apply ba_ext
  rw [ByteArray.data_append, Array.toList_append, mkB_data, mkB_data]
  simp [bytA]
theorem bytT_text (s : ByteArray) (l : List UInt8) : mkB l ++ mkB (wordB s.size) ++ s = mkB (l ++ bytT s) := by
  rw [mkB_append]
  apply ba_ext
  rw [ByteArray.data_append, Array.toList_append, mkB_data, mkB_data]
  simp [bytT]
theorem strOf_one (t : Nat) : strOfNums [(t : Int)] = mkB [UInt8.ofNat t] := by
  apply ba_ext
  rw [strOfNums_data, mkB_data]
  simp only [List.map_cons, List.map_nil, Int.toNat_natCast]
/-- One byte as a text. -/
theorem conv1 (t : Nat) (W : World) (B : Nat) (h : W.cell? ⟨B, 0, none⟩ = some (.int .u8 (t : Int))) :
    (convert 119 9 (.slice (some ⟨B, 0, none⟩) 1 1)).run Try.prog W = .ok (.string (mkB [UInt8.ofNat t])) W := by
  have hc := run_convert_bytes_arg (P := Try.prog) W 119 5 Try.underlying119 Try.underlying5 B 0 1 1 [(t : Int)] rfl (fun i hi => by
    obtain rfl : i = 0 := by omega
    exact h) 9 Try.underlying9
  rw [strOf_one] at hc
  exact hc
theorem lastA_prev (l : List AtN) (j : Nat) (y : AtN) (h : l[j]? = some y) : lastA 0 (l.take (j + 1)) = y.t := by rw [take_next l j y h, lastA_snoc]
/-- A claim, marked. -/
def Mark (p : Prop) : Prop := p
theorem mark_out {p : Prop} (h : Mark p) : p := h
theorem mark_iff {p : Prop} (h : p) : Mark p ↔ True := iff_true_intro h
theorem keepA2 {V W : World} {a b : Addr} {u v : Value} {o : Obj} (h : W.cell? a = some u ∧ W.cell? b = some v ∧ Hid (Wider V W)) : (W.alloc o).cell? a = some u ∧ (W.alloc o).cell? b = some v ∧ Hid (Wider V (W.alloc o)) :=
  ⟨kalloc h.1, kalloc h.2.1, halloc2 h.2.2 o⟩
theorem keepW2 {V W w : World} {a b : Addr} {u v : Value} (h : W.cell? a = some u ∧ W.cell? b = some v ∧ Hid (Wider V W)) (g : Wider W w) : w.cell? a = some u ∧ w.cell? b = some v ∧ Hid (Wider V w) :=
  ⟨wkeep g h.1, wkeep g h.2.1, htrans h.2.2 g⟩

end Go.Proofs.Ytlldgmdgogkdiaa

/- The document's List and its numbers of layer 6: by walks. -/
namespace Go.Proofs.Ytlldgmdgogkdiaa
set_option linter.unusedVariables false
open Go.ChangeShapes Go.WideShapes Go.ChangeAt Go.RowKit Go.Joins
open Go.ChangeMaps (open_string shut_string)


theorem keepW1 {V W w : World} {a : Addr} {u : Value} (h : W.cell? a = some u ∧ Hid (Wider V W)) (g : Wider W w) : w.cell? a = some u ∧ Hid (Wider V w) := ⟨wkeep g h.1, htrans h.2 g⟩
theorem numB_small (n : Nat) (h : n < 18446744073709551616) : (numB n).length < 1000000 := by have := numB_len n h; omega
theorem readB_bound (l : List UInt8) (h : l.length ≤ 8) : readB l < 18446744073709551616 := by
  have h1 := readB_lt l
  have h2 : 256 ^ l.length ≤ 256 ^ 8 := Nat.pow_le_pow_right (by decide) h
  have h3 : (256 : Nat) ^ 8 = 18446744073709551616 := by decide
  omega
end Go.Proofs.Ytlldgmdgogkdiaa

/- The document's Decode and ReadList of layer 6: by walks. -/
namespace Go.Proofs.Ytlldgmdgogkdiaa
set_option linter.unusedVariables false
open Go.ChangeShapes Go.WideShapes Go.ChangeAt Go.RowKit Go.Joins
open Go.ChangeMaps (open_string shut_string)


/-- An append to an owned row, as one step of a region that draws. -/
theorem step_append_own {P : Program} {ops : Array Oper} {o : Oper} {a : Act} {w : World} {K : Act → World → Prop} {Q : Exit → Act → World → Prop} {E : Prop}
    (hg : o.guard = none) (s x : Operand) (t : TypeId) (ho : o.op = Op.call { callee := Callee.builtin Builtin.append, args := #[s, x], argTypes := #[t, t] })
    (base : Nat) (e : TypeId) (i : TypeInfo) (z : Value) (size bytes : Nat) (ht : P.underlying t = some (.slice e)) (hi : P.info? e = some i) (hz : i.zero = some z)
    (hsize : i.size = size) (hby : i.bytes = bytes) (hzs : z.cells.size = size) (hsz : 0 < size)
    (v : Value) (n : Nat) (xs : List Value) (hs : a.eval s = v) (hown : w.ownsRow base e size v n xs)
    (ad : Addr) (m c : Nat) (news : List Value) (hx : a.eval x = .slice (some ad) m c) (hl : news.length = m * size) (hnews : ∀ j u, news[j]? = some u → w.cell? (ad.add j) = some u) (h1 : ∀ u ∈ news, u.oneCell' = true)
    (h63 : n + m ≤ maxLen) (hbytes : (n + m) * bytes ≤ 140737488355328) (hbase : base ≤ w.heap.size)
    (h : ∀ v' w', w'.ownsRow base e size v' (n + m) (xs ++ news) → w.grownBy w' v.ownBlock → (v' = .slice none 0 0 ↔ v = .slice none 0 0 ∧ m = 0) → K (a.put o.dst v') w') :
    if Region.wanted o (yielded ops a.tmps) = true then Oper.wp P o a w K Q else E := by
  have hw : Region.wanted o (yielded ops a.tmps) = true := by simp [Region.wanted, hg]
  rw [if_pos hw]
  exact wp_append_own w s x t ho base e i z size bytes ht hi hz hsize hby hzs hsz v n xs hs hown ad m c news hx hl hnews h1 h63 hbytes hbase h
theorem lies2d (w : World) (u v : Value) (t : TypeId) (hu : u.oneCell' = true) (hv : v.oneCell' = true) :
    (∀ (j : Nat) (x : Value), ([u, v] : List Value)[j]? = some x → ((w.alloc (.cells #[u, v] t)).drew).cell? ((⟨w.heap.size, 0, none⟩ : Addr).add j) = some x) ∧ (∀ x ∈ ([u, v] : List Value), x.oneCell' = true) :=
  lies2 w u v t hu hv
theorem s_head {s : ByteArray} {t a b : UInt8} {r : List UInt8} (h : s.data.toList = t :: a :: b :: r) (g : 0 < s.size) : s[0].toNat = t.toNat := by
  have : s.data.toList[0]'(by rw [h]; simp) = t := by simp [h]
  rw [← this]; rfl
end Go.Proofs.Ytlldgmdgogkdiaa

/- The document's ReadList of layer 6: by a walk. -/
namespace Go.Proofs.Ytlldgmdgogkdiaa
set_option linter.unusedVariables false
open Go.ChangeShapes Go.WideShapes Go.ChangeAt Go.RowKit Go.Joins
open Go.ChangeMaps (open_string shut_string)

end Go.Proofs.Ytlldgmdgogkdiaa
