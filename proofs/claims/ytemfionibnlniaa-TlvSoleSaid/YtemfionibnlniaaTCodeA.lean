/- What the code of package tlv does: a row of bytes that is appended to, a reader of bytes: by walks. -/
import Derived.Test.YtemfionibnlniaaTRefE
import Derived.Test.YtemfionibnlniaaSMake
import Derived.WalkKit
import Derived.Lib.Hide
import Derived.Laws.Bits64b
import Derived.Lib.AppendStr
import Derived.Deep.DeepCutAuto
import Derived.WalkLawsBesides
import Derived.WalkSpells
import Derived.BigQuiet
import Derived.BigRegion
import Derived.Deep.RegionLaw
import Derived.Deep.RegionHeld3
namespace Go.Proofs.Ytemfionibnlniaa
set_option linter.unusedVariables false
open Go.ChangeShapes Go.WideShapes Go.ChangeAt Go.RowKit Go.Joins
open Go.ChangeMaps (open_string shut_string)

/-! ### Numbers out of bytes -/
theorem byte_or (n b : Nat) (h : n < 72057594037927936) (hb : b < 256) : n * 256 ||| b = n * 256 + b := by
  have := Nat.two_pow_add_eq_or_of_lt (i := 8) (b := b) (by simpa using hb) n
  rw [show n * 256 = 2 ^ 8 * n by omega, ← this]
theorem readB_take_lt (l : List UInt8) (k : Nat) (hk : k < 8) : readB (l.take k) < 72057594037927936 := by
  have h := readB_lt (l.take k)
  have e : (l.take k).length ≤ 7 := by rw [List.length_take]; omega
  have := Nat.pow_le_pow_right (n := 256) (by omega) e
  have e7 : (256 : Nat) ^ 7 = 72057594037927936 := by decide
  omega
set_option maxHeartbeats 2000000 in
theorem tnumber_c (s : ByteArray) (hs : s.size ≤ 8) {n : Nat} (hn : readB s.data.toList = n) (w : World) :
    Calls Try.prog 39 #[.string s] w fun e w' => e = .returned (.int .u64 (n : Int)) ∧ Wider w w' := by
  have HN := Lib.hid hn
  clear hn
  go_enter Try.func39, Try.ntmps39
  go_wp2
  go_loopw [3, 7] (fun v i wr => ∃ k : Nat, k ≤ s.size ∧ i = .int .i64 (k : Int) ∧ (∃ m : Nat, v = .int .u64 (m : Int) ∧ readB (s.data.toList.take k) = m) ∧ Wider w wr) (fun _ i _ => s.size - (intOf i).toNat)
  case atStart => exact ⟨0, by omega, by simp, ⟨0, rfl, rfl⟩, Wider.refl w⟩
  case round =>
    obtain ⟨k, hk, rfl, ⟨m, rfl, hm⟩, hg⟩ := hrel
    have HM := Lib.hid hm
    by_cases c : k < s.size
    · have lm := readB_take_lt s.data.toList k (by omega)
      rw [hm] at lm
      have hb := s[k].toNat_lt
      have i0 : (0 : Int) ≤ (k : Int) := by omega
      have i1 : (k : Int) < (s.size : Int) := by omega
      have o : bits BinOp.or IntKind.u64 ((m : Int) * 256) (s[k].toNat : Int) = ((m * 256 + s[k].toNat : Nat) : Int) := by
        have e := bits_or_u64_nat (m * 256) s[k].toNat (by omega) (by omega)
        rw [byte_or m _ lm (by omega)] at e
        rw [← e]; simp
      have TK : Hid (readB (s.data.toList.take (k + 1)) = m * 256 + s[k].toNat) := by
        show readB (s.data.toList.take (k + 1)) = m * 256 + s[k].toNat
        rw [List.take_succ_eq_append_getElem (by rw [← size_data]; exact c), readB_snoc, hm]; rfl
      have O := Lib.hid o
      clear hm o
      go_wp2
      go_roundw
      case rel => exact ⟨k + 1, by omega, by go_num, ⟨m * 256 + s[k].toNat, by rw [O.out], TK.out⟩, hg⟩
      case measure => simp [intOf]; omega
    · obtain rfl : k = s.size := by omega
      rw [List.take_of_length_le (by rw [size_data]; exact Nat.le_refl _)] at hm
      have e := HN.out
      obtain rfl : m = n := hm.symm.trans e
      clear hm e
      go_wp2
      go_ret
      exact ⟨rfl, hg⟩

/-! ### A row of bytes that a call owns -/
def cellsB (l : List UInt8) : List Value := l.map fun b => Value.int .u8 (b.toNat : Int)
theorem cellsB_length (l : List UInt8) : (cellsB l).length = l.length := by simp [cellsB]
theorem cellsB_append (l m : List UInt8) : cellsB (l ++ m) = cellsB l ++ cellsB m := by simp [cellsB]
theorem cellsB_str (s : ByteArray) : Lib.strCells s = cellsB s.data.toList := rfl
theorem cellsB_one (l : List UInt8) : ∀ u ∈ cellsB l, u.oneCell' = true := by
  intro u hu
  obtain ⟨x, _, rfl⟩ := List.mem_map.1 hu
  rfl
theorem nums_mkB (l : List UInt8) : strOfNums (l.map fun b => (b.toNat : Int)) = mkB l := by
  apply ba_ext
  rw [strOfNums_data, mkB_data, List.map_map]
  conv => rhs; rw [← List.map_id l]
  refine List.map_congr_left fun b _ => ?_
  show UInt8.ofNat ((b.toNat : Int).toNat) = b
  rw [Int.toNat_natCast]; simp
/-- Such a row as a text. -/
theorem own_text {w : World} {b n : Nat} {v : Value} {l : List UInt8} (h : w.ownsRow b 5 1 v n (cellsB l)) : (convert 52 9 v).run Try.prog w = .ok (.string (mkB l)) w := by
  have hl := h.1
  rw [cellsB_length, Nat.mul_one] at hl
  have hh := h
  rcases h.2 with ⟨rfl, rfl⟩ | ⟨g, cap, cur, rfl, _⟩
  · have e0 : l = [] := List.eq_nil_of_length_eq_zero hl
    subst e0
    exact run_convert_bytes_nil w 52 5 Try.underlying52 Try.underlying5 0 0 9 Try.underlying9
  · have c := run_convert_bytes_arg (P := Try.prog) w 52 5 Try.underlying52 Try.underlying5 g 0 n cap (l.map fun b => (b.toNat : Int)) (by simp [hl]) (fun i hi => by
      have q := hh.cells rfl i (.int .u8 ((l.map fun b => (b.toNat : Int)).getD i 0)) (by
        rw [List.getD_eq_getElem?_getD]
        simp only [cellsB, List.getElem?_map]
        rw [List.getElem?_eq_getElem (by omega)]; rfl)
      rw [Addr.add_lit] at q
      exact q) 9 Try.underlying9
    rw [nums_mkB] at c
    exact c
theorem cellsB_word (n : Nat) (h : n < 65536) : cellsB (wordB n) = [.int .u8 ((n : Int) / 256), .int .u8 ((n : Int) % 256)] := by
  simp only [cellsB, wordB, List.map_cons, List.map_nil]
  rw [ofNat_toNat8 _ (by omega), ofNat_toNat8 _ (by omega)]; simp
theorem wider_appendS {W wr w1 : World} {e : TypeId} {size n : Nat} {v : Value} {xs : List Value} (g : Wider W wr) (h : wr.ownsRow W.heap.size e size v n xs) (k : wr.grownBy w1 v.ownBlock) : Wider W w1 := wider_append g h k
set_option maxHeartbeats 2000000 in
theorem tapp_c {W w : World} (g : Wider W w) {v : Value} {n : Nat} {l : List UInt8} (h : w.ownsRow W.heap.size 5 1 v n (cellsB l)) (s : ByteArray) (hs : s.size < 65536) (hn : n < 2000000) {m : List UInt8} (hm : l ++ bytT s = m) :
    Calls Try.prog 32 #[v, .string s] w fun e w' => ∃ v', e = .returned v' ∧ Wider W w' ∧ w'.ownsRow W.heap.size 5 1 v' (n + 2 + s.size) (cellsB m) := by
  obtain ⟨i0, hi, hz0, hz1, hz2⟩ := infoN_parts
  have m0 : (0 : Int) ≤ (s.size : Int) := by omega
  have SIDE := Lib.hid (lies2 w (.int .u8 ((s.size : Int) / 256)) (.int .u8 ((s.size : Int) % 256)) 5 rfl rfl)
  have S3 : Hid (n + 2 ≤ maxLen) := by show n + 2 ≤ maxLen; unfold maxLen; omega
  have S4 : Hid ((n + 2) * 1 ≤ 140737488355328) := by show (n + 2) * 1 ≤ 140737488355328; omega
  have S5 : Hid (W.heap.size ≤ (w.alloc (.cells #[.int .u8 ((s.size : Int) / 256), .int .u8 ((s.size : Int) % 256)] 5)).heap.size) := by show W.heap.size ≤ (w.heap.push _).size; have := g.2; simp; omega
  have S6 : Hid (n + 2 + s.size ≤ maxLen) := by show n + 2 + s.size ≤ maxLen; unfold maxLen; omega
  have S7 : Hid (n + 2 + s.size ≤ 140737488355328) := by show n + 2 + s.size ≤ 140737488355328; omega
  have HO := Lib.hid (h.alloc (.cells #[.int .u8 ((s.size : Int) / 256), .int .u8 ((s.size : Int) % 256)] 5))
  have HG := Lib.hid g
  have HM : Hid (cellsB l ++ [.int .u8 ((s.size : Int) / 256), .int .u8 ((s.size : Int) % 256)] ++ Lib.strCells s = cellsB m) := by
    show _ = _
    rw [← hm, cellsB_append, ← cellsB_word _ hs, cellsB_str, List.append_assoc, ← cellsB_append]; rfl
  have HH := Lib.hid h
  clear g hm h
  go_enter Try.func32, Try.ntmps32
  go_wp2_with (first
    | (at_builtin; refine wpList_append_own _ rfl (.tmp 5) (.tmp 13) 52 rfl W.heap.size 5 i0 (.int .u8 0) 1 1 Try.underlying52 hi hz0 hz1 hz2 rfl (by decide) _ _ _ rfl HO.out ⟨w.heap.size, 0, none⟩ 2 2 [.int .u8 ((s.size : Int) / 256), .int .u8 ((s.size : Int) % 256)] rfl rfl SIDE.out.1 SIDE.out.2 S3.out S4.out S5.out ?_; intro v1 w1 hown1 hgrow1 _; have G1 := Lib.hid (wider_appendA HG.out HH.out hgrow1); have HO1 := Lib.hid hown1; clear hown1 hgrow1)
    | (at_builtin; refine Lib.wpList_append_own_string _ rfl (.tmp 15) (.tmp 16) 52 9 rfl W.heap.size 5 i0 Try.underlying52 Try.underlying9 hi hz0 hz1 hz2 _ _ _ rfl HO1.out s rfl S6.out S7.out G1.out.2 ?_; intro v2 w2 hown2 hgrow2 _; have G2 := Lib.hid (wider_append G1.out HO1.out hgrow2); have HO2 := Lib.hid hown2; clear hown2 hgrow2))
  go_ret
  exact ⟨_, rfl, G2.out, by rw [← HM.out]; exact HO2.out⟩
end Go.Proofs.Ytemfionibnlniaa
