/- What the code of package chunk does: a length's number, bytes filled up, the two states of a stream: by walks. -/
import Derived.Test.YtcpjhgbbcfbnpaaBlk
import Derived.Test.YtcpjhgbbcfbnpaaKMath
import Derived.Test.YtcpjhgbbcfbnpaaOpen
import Derived.Laws.Bits64b
import Derived.Laws.ByValue
namespace Go.Proofs.Ytcpjhgbbcfbnpaa
set_option linter.unusedVariables false
open Go.ChangeShapes Go.WideShapes Go.ChangeAt Go.RowKit Go.Joins
open Go.ChangeMaps (open_string shut_string)

theorem byte_or8 (n b : Nat) (hb : b < 256) : n * 256 ||| b = n * 256 + b := by
  have := Nat.two_pow_add_eq_or_of_lt (i := 8) (b := b) (by simpa using hb) n
  rw [show n * 256 = 2 ^ 8 * n by omega, ← this]
theorem bits_or_u32_nat (a b : Nat) (ha : a < 4294967296) (hb : b < 4294967296) : bits .or .u32 (a : Int) (b : Int) = ((a ||| b : Nat) : Int) := by
  have hx : a ||| b < 2 ^ 32 := Nat.or_lt_two_pow (by omega) (by omega)
  have h1 : (BitVec.ofInt 32 (a : Int)).toNat = a := by
    rw [BitVec.ofInt_natCast, BitVec.toNat_ofNat]; exact Nat.mod_eq_of_lt (by omega)
  have h2 : (BitVec.ofInt 32 (b : Int)).toNat = b := by
    rw [BitVec.ofInt_natCast, BitVec.toNat_ofNat]; exact Nat.mod_eq_of_lt (by omega)
  show IntKind.u32.wrap ((BitVec.ofInt 32 (a : Int) ||| BitVec.ofInt 32 (b : Int)).toNat : Int) = _
  rw [BitVec.toNat_or, h1, h2]
  simp [IntKind.wrap, IntKind.bits, IntKind.signed]; omega
theorem readB_upto (l : List UInt8) (k : Nat) (hk : k < 4) : readB (l.take k) < 16777216 := by
  have h := readB_lt (l.take k)
  have e : (l.take k).length ≤ 3 := by rw [List.length_take]; omega
  have := Nat.pow_le_pow_right (n := 256) (by omega) e
  have e7 : (256 : Nat) ^ 3 = 16777216 := by decide
  omega
theorem readB_lenK (a b c d : UInt8) : readB [a, b, c, d] = lenK a b c d := by simp [readB, lenK]
set_option maxHeartbeats 2000000 in
theorem knumber_c {w : World} {b : Nat} {v : Value} {l : List UInt8} (h : w.ownsRow b 5 1 v 4 (cellsB l)) {n : Nat} (hn : readB l = n) :
    Calls Try.prog 28 #[v] w fun e w' => e = .returned (.int .u32 (n : Int)) ∧ w' = w := by
  have hl : l.length = 4 := by have := h.1; rw [cellsB_length] at this; omega
  have HN := Lib.hid hn
  have HL := Lib.hid hl
  obtain ⟨g, c2, rfl, hc⟩ : ∃ g c2, v = .slice (some ⟨g, 0, none⟩) 4 c2 ∧ ∀ k, (hk : k < l.length) → w.cell? ⟨g, k, none⟩ = some (.int .u8 (l[k].toNat : Int)) := by
    rcases id h.2 with ⟨rfl, q⟩ | ⟨g, cap, cur, rfl, _⟩
    · exact absurd q (by decide)
    · refine ⟨g, cap, rfl, fun k hk => ?_⟩
      have q := h.cells rfl k (.int .u8 (l[k].toNat : Int)) (by simp [cellsB, hk])
      rw [Addr.add_lit, Nat.zero_add] at q
      exact q
  have HC := Lib.hid hc
  clear hn hl h hc
  go_enter Try.func28, Try.ntmps28
  go_wp2
  go_loopw [3, 8] (fun v i wr => ∃ k : Nat, k ≤ 4 ∧ i = .int .i64 (k : Int) ∧ (∃ m : Nat, v = .int .u32 (m : Int) ∧ Hid (readB (l.take k) = m)) ∧ wr = w) (fun _ i _ => 4 - (intOf i).toNat)
  case atStart => exact ⟨0, by omega, by simp, ⟨0, rfl, rfl⟩, rfl⟩
  case round =>
    obtain ⟨k, hk, rfl, ⟨m, rfl, HM⟩, rfl⟩ := hrel
    by_cases c : k < 4
    · have kl : k < l.length := by have := HL.out; omega
      have c0 := HC.out k kl
      have lm := readB_upto l k (by omega)
      rw [HM.out] at lm
      have hb := (l[k]'kl).toNat_lt
      have TK : Hid (readB (l.take (k + 1)) = m * 256 + (l[k]'kl).toNat) := by
        show readB (l.take (k + 1)) = _
        rw [List.take_succ_eq_append_getElem kl, readB_snoc, HM.out]
      obtain ⟨x, hx⟩ : ∃ x : Nat, (l[k]'kl).toNat = x := ⟨_, rfl⟩
      rw [hx] at c0 hb TK
      have i0 : (0 : Int) ≤ (k : Int) := by omega
      have i1 : (k : Int) < 4 := by omega
      have O : Hid (bits BinOp.or IntKind.u32 ((m : Int) * 256) (x : Int) = ((m * 256 + x : Nat) : Int)) := by
        show bits BinOp.or IntKind.u32 ((m : Int) * 256) (x : Int) = _
        have e := bits_or_u32_nat (m * 256) x (by omega) (by omega)
        rw [byte_or8 m _ hb] at e
        rw [← e]; simp
      clear hx kl
      go_wp2
      go_roundw
      case rel => exact ⟨k + 1, by omega, by go_num, ⟨m * 256 + x, by rw [O.out], TK⟩, trivial⟩
      case measure => simp [intOf]; omega
    · obtain rfl : k = 4 := by omega
      have e := HM.out
      rw [List.take_of_length_le (by have := HL.out; omega)] at e
      obtain rfl : m = n := e.symm.trans HN.out
      clear e HM
      go_wp2
      go_ret
      exact ⟨rfl, rfl⟩

/-! ### Bytes filled up -/
set_option maxHeartbeats 2000000 in
theorem kfill_o {V w : World} {L : List Thing} {B : Option Addr} {n c : Nat} {l : List UInt8} (H : Own V w (rowT 5 1 (.slice B n c) n (cellsB l) :: L)) (N : Nat) (M : Int) (hM : M = (N : Int)) (hN : N < 1000000) (hn : n ≤ N) (s : ByteArray) (hs : s.size < 1000000)
    {k t : Nat} (hk : min (N - n) s.size = k) (ht : n + k = t) {Y : ByteArray} (hY : s.extract k s.size = Y) {m : List UInt8} (hm : l ++ s.data.toList.take k = m) :
    Calls Try.prog 27 #[.slice B n c, .int .i64 M, .string s] w fun e w' => ∃ B' c', e = .returned (.tuple #[.slice B' t c', .string Y]) ∧ Own V w' (rowT 5 1 (.slice B' t c') t (cellsB m) :: L) := by
  subst hM
  obtain ⟨i0, hi, hz0, hz1, hz2⟩ := infoN_parts
  obtain ⟨X, hX⟩ : ∃ X, s.extract 0 k = X := ⟨_, rfl⟩
  have hXs : X.size = k := by rw [← hX, size_data, extract_list, List.drop_zero, List.length_take, ← size_data]; omega
  have hXd : Lib.strCells X = cellsB (s.data.toList.take k) := by rw [cellsB_str, ← hX, extract_list, List.drop_zero]
  have HYS : Hid (cellsB l ++ Lib.strCells X = cellsB m) := by show _ = _; rw [hXd, ← cellsB_append, hm]
  have S6 : Hid (n + X.size ≤ maxLen) := by show _ ≤ maxLen; unfold maxLen; omega
  have S7 : Hid (n + X.size ≤ 140737488355328) := by show _ ≤ _; omega
  have S8 : Hid (n + X.size = t) := by show _ = _; omega
  have k0 : (0 : Int) ≤ (k : Int) := by omega
  have k1 : (k : Int) ≤ (s.size : Int) := by omega
  have hmin : (if (s.size : Int) < (N : Int) - (n : Int) then (s.size : Int) else (N : Int) - (n : Int)) = (k : Int) := by split <;> omega
  have HD := Lib.hid (H.quiet (Wider.refl _).drew)
  clear hk ht hm hXs hXd H
  go_enter Try.func27, Try.ntmps27
  go_upto_region 2 with (fail)
  go_region_law (first
    | (refine step_append_text rfl (.tmp 16) (.tmp 19) 46 9 rfl 5 i0 Try.underlying46 Try.underlying9 hi hz0 hz1 hz2 (.slice B n c) n (cellsB l) (by kernel_rfl) HD.out X (by kernel_rfl) S6.out S7.out S8.out HYS.out ?_; intro B2 c3 w5 H5))
  all_goals
    go_wp2
    go_ret2
    exact ⟨_, _, rfl, H5⟩

/-! ### The states -/
/-- The state in which a length's bytes come: they lie in the row that block G holds. -/
abbrev fLen (G : Nat) : Value := .func (.func 26) #[] #[.pointer (some ⟨G, 0, none⟩)]
/-- The state in which a body's bytes come; block K holds how many it has. -/
abbrev fBody (G K : Nat) : Value := .func (.func 30) #[] #[.pointer (some ⟨G, 0, none⟩), .pointer (some ⟨K, 0, none⟩)]
theorem kinlen_o {V w : World} {L : List Thing} (H : Own V w L) (B : Option Addr) (n c : Nat) :
    Calls Try.prog 25 #[.slice B n c] w fun e w' => ∃ G, e = .returned (fLen G) ∧ Own V w' (blkT G #[.slice B n c] 46 :: L) := by
  have H1 := H.blk #[.slice B n c] 46
  go_enter Try.func25, Try.ntmps25
  go_wp2
  go_ret
  exact ⟨_, rfl, H1⟩
theorem kinbody_o {V w : World} {L : List Thing} (H : Own V w L) (B : Option Addr) (n c N : Nat) :
    Calls Try.prog 29 #[.slice B n c, .int .i64 (N : Int)] w fun e w' => ∃ G K, e = .returned (fBody G K) ∧ Own V w' (blkT G #[.slice B n c] 46 :: blkT K #[.int .i64 (N : Int)] 3 :: L) := by
  have H1 := (H.blk #[.slice B n c] 46).blk #[.int .i64 (N : Int)] 3
  have hz : (w.alloc (.cells #[.slice B n c] 46)).heap.size = w.heap.size + 1 := by simp
  rw [hz] at H1
  have H2 := H1.swap
  clear hz H1
  go_enter Try.func29, Try.ntmps29
  go_wp2
  go_ret
  exact ⟨_, _, rfl, H2⟩
theorem Own.nilRow {V w : World} {L : List Thing} (H : Own V w L) (e : TypeId) (size : Nat) : Own V w (rowT e size (.slice none 0 0) 0 [] :: L) :=
  H.make (Wider.refl w) (World.ownsRow_nil _ _ _ _) (rowT_stable _ _ _ _ _) (fun i hi => by simp [Value.ownBlock] at hi)

/-! #### Bytes come to the state of a length -/
/-- Fewer than four bytes. -/
theorem klen_few {V w : World} {L : List Thing} {G : Nat} {B : Option Addr} {n c : Nat} {l : List UInt8} (H : Own V w (blkT G #[.slice B n c] 46 :: rowT 5 1 (.slice B n c) n (cellsB l) :: L)) (s : ByteArray) {t : Nat} (ht : n + s.size = t) (h4 : t < 4) {m : List UInt8} (hm : l ++ s.data.toList = m) :
    Calls Try.prog 26 #[.string s, .pointer (some ⟨G, 0, none⟩)] w fun e w' => ∃ G' B' c' Y, e = .returned (.tuple #[.string ⟨#[]⟩, .string Y, fLen G']) ∧ Y.size = 0 ∧ Own V w' (blkT G' #[.slice B' t c'] 46 :: rowT 5 1 (.slice B' t c') t (cellsB m) :: L) := by
  obtain ⟨Y, hY⟩ : ∃ Y, s.extract s.size s.size = Y := ⟨_, rfl⟩
  have hYs : Y.size = 0 := by rw [← hY]; simp
  have hc := blk_cell H.head 0 (v := .slice B n c) rfl
  have zf := kfill_o H.swap 4 4 rfl (by omega) (by omega) s (by omega) (k := s.size) (by omega) ht hY (m := m) (by rw [← hm, List.take_of_length_le (by rw [size_data]; exact Nat.le_refl _)])
  have d1 : decide ((t : Int) < 4) = true := decide_eq_true (by omega)
  have d2 : decide (t < 4) = true := decide_eq_true h4
  have i1 : (t : Int) < 4 := by omega
  clear hY ht hm
  go_enter Try.func26, Try.ntmps26
  go_wp2_with (first
    | (go_at_call 27; ((with_reducible refine zf.mono ?_); rintro e w1 ⟨B1, c1, rfl, H1⟩))
    | (go_at_call 25; ((with_reducible refine (kinlen_o H1 _ _ _).mono ?_); rintro e w2 ⟨G2, rfl, H2⟩)))
  go_ret3
  exact ⟨_, _, _, _, rfl, hYs, H2.third.drop⟩
/-- The fourth byte comes, and they are a length that a body may have. -/
theorem klen_good {V w : World} {L : List Thing} {G : Nat} {B : Option Addr} {n c : Nat} {l : List UInt8} (H : Own V w (blkT G #[.slice B n c] 46 :: rowT 5 1 (.slice B n c) n (cellsB l) :: L)) (s : ByteArray) (hs : s.size < 1000000) (hn : n < 4) {k : Nat} (hk : n + k = 4) (hks : k ≤ s.size) {m : List UInt8} (hm : l ++ s.data.toList.take k = m)
    {N : Nat} (hN : readB m = N) (h5 : 5 ≤ N) (h6 : N ≤ 16384) {Y : ByteArray} (hY : s.extract k s.size = Y) :
    Calls Try.prog 26 #[.string s, .pointer (some ⟨G, 0, none⟩)] w fun e w' => ∃ G' K', e = .returned (.tuple #[.string ⟨#[]⟩, .string Y, fBody G' K']) ∧ Own V w' (blkT G' #[.slice none 0 0] 46 :: blkT K' #[.int .i64 (N : Int)] 3 :: rowT 5 1 (.slice none 0 0) 0 (cellsB []) :: L) := by
  have hc := blk_cell H.head 0 (v := .slice B n c) rfl
  have zf := kfill_o H.swap 4 4 rfl (by omega) (by omega) s hs (k := k) (by omega) hk hY hm
  have d1 : decide ((N : Int) < 5) = false := decide_eq_false (by omega)
  have d2 : decide (N < 5) = false := decide_eq_false (by omega)
  have d3 : decide ((16384 : Int) < (N : Int)) = false := decide_eq_false (by omega)
  have d4 : decide (16384 < N) = false := decide_eq_false (by omega)
  have w1 : IntKind.i64.wrap (N : Int) = (N : Int) := by simp [IntKind.wrap, IntKind.bits, IntKind.signed]; omega
  have HN := Lib.hid hN
  clear hY hk hm hN
  go_enter Try.func26, Try.ntmps26
  go_wp2_with (first
    | (go_at_call 27; ((with_reducible refine zf.mono ?_); rintro e w1 ⟨B1, c1, rfl, H1⟩))
    | (go_at_call 28; ((with_reducible refine (knumber_c H1.head HN.out).mono ?_); rintro e w2 ⟨rfl, rfl⟩))
    | (go_at_call 29; ((with_reducible refine (kinbody_o H1 none 0 0 N).mono ?_); rintro e w3 ⟨G3, K3, rfl, H3⟩)))
  go_ret3
  exact ⟨_, _, rfl, (((H3.third.drop).third.drop).nilRow _ _).swap.third.swap⟩
/-- .. or none that a body may have. -/
theorem klen_bad {V w : World} {L : List Thing} {G : Nat} {B : Option Addr} {n c : Nat} {l : List UInt8} (H : Own V w (blkT G #[.slice B n c] 46 :: rowT 5 1 (.slice B n c) n (cellsB l) :: L)) (s : ByteArray) (hs : s.size < 1000000) (hn : n < 4) {k : Nat} (hk : n + k = 4) (hks : k ≤ s.size) {m : List UInt8} (hm : l ++ s.data.toList.take k = m)
    {N : Nat} (hN : readB m = N) (h5 : N < 5 ∨ 16384 < N) (h6 : N < 4294967296) :
    Calls Try.prog 26 #[.string s, .pointer (some ⟨G, 0, none⟩)] w fun e w' => e = .returned (.tuple #[.string ⟨#[]⟩, .string ⟨#[]⟩, .nilFunc]) ∧ Own V w' L := by
  obtain ⟨Y, hY⟩ : ∃ Y, s.extract k s.size = Y := ⟨_, rfl⟩
  have hc := blk_cell H.head 0 (v := .slice B n c) rfl
  have zf := kfill_o H.swap 4 4 rfl (by omega) (by omega) s hs (k := k) (by omega) hk hY hm
  have HN := Lib.hid hN
  clear hY hk hm hN
  by_cases q : N < 5
  · have d1 : decide ((N : Int) < 5) = true := decide_eq_true (by omega)
    have d2 : decide (N < 5) = true := decide_eq_true (by omega)
    go_enter Try.func26, Try.ntmps26
    go_wp2_with (first
      | (go_at_call 27; ((with_reducible refine zf.mono ?_); rintro e w1 ⟨B1, c1, rfl, H1⟩))
      | (go_at_call 28; ((with_reducible refine (knumber_c H1.head HN.out).mono ?_); rintro e w2 ⟨rfl, rfl⟩)))
    go_ret3
    exact ⟨rfl, H1.drop.drop⟩
  · have d1 : decide ((N : Int) < 5) = false := decide_eq_false (by omega)
    have d2 : decide (N < 5) = false := decide_eq_false (by omega)
    have d3 : decide ((16384 : Int) < (N : Int)) = true := decide_eq_true (by omega)
    have d4 : decide (16384 < N) = true := decide_eq_true (by omega)
    go_enter Try.func26, Try.ntmps26
    go_wp2_with (first
      | (go_at_call 27; ((with_reducible refine zf.mono ?_); rintro e w1 ⟨B1, c1, rfl, H1⟩))
      | (go_at_call 28; ((with_reducible refine (knumber_c H1.head HN.out).mono ?_); rintro e w2 ⟨rfl, rfl⟩)))
    go_ret3
    exact ⟨rfl, H1.drop.drop⟩

/-! #### Bytes come to the state of a body -/
/-- Some of them. -/
theorem kbody_few {V w : World} {L : List Thing} {G K N : Nat} {B : Option Addr} {n c : Nat} {l : List UInt8} (H : Own V w (blkT G #[.slice B n c] 46 :: blkT K #[.int .i64 (N : Int)] 3 :: rowT 5 1 (.slice B n c) n (cellsB l) :: L)) (s : ByteArray) (hs : s.size < 1000000) (hN : N ≤ 16384) {t : Nat} (ht : n + s.size = t) (h4 : t < N) {m : List UInt8} (hm : l ++ s.data.toList = m) :
    Calls Try.prog 30 #[.string s, .pointer (some ⟨G, 0, none⟩), .pointer (some ⟨K, 0, none⟩)] w fun e w' => ∃ G' K' B' c' Y, e = .returned (.tuple #[.string ⟨#[]⟩, .string Y, fBody G' K']) ∧ Y.size = 0 ∧ Own V w' (blkT G' #[.slice B' t c'] 46 :: blkT K' #[.int .i64 (N : Int)] 3 :: rowT 5 1 (.slice B' t c') t (cellsB m) :: L) := by
  obtain ⟨Y, hY⟩ : ∃ Y, s.extract s.size s.size = Y := ⟨_, rfl⟩
  have hYs : Y.size = 0 := by rw [← hY]; simp
  have hc := blk_cell H.head 0 (v := .slice B n c) rfl
  have hk0 := blk_cell H.second 0 (v := .int .i64 (N : Int)) rfl
  have zf := kfill_o H.third N (N : Int) rfl (by omega) (by omega) s hs (k := s.size) (by omega) ht hY (m := m) (by rw [← hm, List.take_of_length_le (by rw [size_data]; exact Nat.le_refl _)])
  have d1 : decide ((t : Int) < (N : Int)) = true := decide_eq_true (by omega)
  have d2 : decide (t < N) = true := decide_eq_true h4
  have i1 : (t : Int) < (N : Int) := by omega
  clear hY ht hm
  go_enter Try.func30, Try.ntmps30
  go_wp2_with (first
    | (go_at_call 27; ((with_reducible refine zf.mono ?_); rintro e w1 ⟨B1, c1, rfl, H1⟩; have hk1 := blk_cell H1.drop.drop.head 0 (v := .int .i64 (N : Int)) rfl))
    | (go_at_call 29; ((with_reducible refine (kinbody_o H1 _ _ _ N).mono ?_); rintro e w2 ⟨G2, K2, rfl, H2⟩)))
  go_ret3
  exact ⟨_, _, _, _, _, rfl, hYs, ((H2.fourth.drop).fourth.drop)⟩
/-- The last one of them. -/
theorem kbody_full {V w : World} {L : List Thing} {G K N : Nat} {B : Option Addr} {n c : Nat} {l : List UInt8} (H : Own V w (blkT G #[.slice B n c] 46 :: blkT K #[.int .i64 (N : Int)] 3 :: rowT 5 1 (.slice B n c) n (cellsB l) :: L)) (s : ByteArray) (hs : s.size < 1000000) (hN : N ≤ 16384) {k : Nat} (hk : n + k = N) (hks : k ≤ s.size) {m : List UInt8} (hm : l ++ s.data.toList.take k = m) {X Y : ByteArray} (hX : mkB m = X) (hY : s.extract k s.size = Y) :
    Calls Try.prog 30 #[.string s, .pointer (some ⟨G, 0, none⟩), .pointer (some ⟨K, 0, none⟩)] w fun e w' => ∃ G', e = .returned (.tuple #[.string X, .string Y, fLen G']) ∧ Own V w' (blkT G' #[.slice none 0 0] 46 :: rowT 5 1 (.slice none 0 0) 0 (cellsB []) :: L) := by
  have hc := blk_cell H.head 0 (v := .slice B n c) rfl
  have hk0 := blk_cell H.second 0 (v := .int .i64 (N : Int)) rfl
  have zf := kfill_o H.third N (N : Int) rfl (by omega) (by omega) s hs (k := k) (by omega) hk hY hm
  have d1 : decide ((N : Int) < (N : Int)) = false := decide_eq_false (by omega)
  have d2 : decide (N < N) = false := decide_eq_false (by omega)
  have HX := Lib.hid hX
  clear hY hm hX
  go_enter Try.func30, Try.ntmps30
  go_upto_region 4 with (first
    | (go_at_call 27; ((with_reducible refine zf.mono ?_); rintro e w1 ⟨B1, c1, rfl, H1⟩; have hk1 := blk_cell H1.drop.drop.head 0 (v := .int .i64 (N : Int)) rfl)))
  have H1d := H1.quiet (Wider.refl _).drew
  have hcv := own_text H1d.head
  rw [HX.out] at hcv
  go_region_law (first
    | (go_simp; go_at_call 25; ((with_reducible refine (kinlen_o H1d none 0 0).mono ?_); rintro e w3 ⟨G3, rfl, H3⟩; have hcv3 := own_text H3.second; rw [HX.out] at hcv3)))
  all_goals
    go_wp2
    go_ret3
    exact ⟨_, rfl, (H3.swap.drop.swap.drop.swap.drop.nilRow _ _).swap⟩
end Go.Proofs.Ytcpjhgbbcfbnpaa
