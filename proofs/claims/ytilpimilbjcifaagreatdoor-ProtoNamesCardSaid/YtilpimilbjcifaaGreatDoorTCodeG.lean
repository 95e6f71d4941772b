/- Texts that belong together, one behind the other: TCodeA TCodeB. -/
import Derived.Test.YtilpimilbjcifaaGreatDoorTRefG
import Derived.Test.YtilpimilbjcifaaGreatDoorSMake
import Derived.Test.YtilpimilbjcifaaGreatDoorBlk
import Derived.WalkKit
import Derived.Lib.Hide
import Derived.Laws.Bits64b
import Derived.Lib.AppendStr
import Derived.Deep.DeepCutAuto
import Derived.WalkLawsBesides
import Derived.WalkSpells
import Derived.BigQuiet
import Derived.BigRegion
import Derived.Deep.RegionLaw
import Derived.Deep.RegionHeld3

/- What the code of package tlv does: a row of bytes that is appended to, a reader of bytes: by walks. -/
namespace Go.Proofs.YtilpimilbjcifaaGreatDoor
set_option linter.unusedVariables false
open Go.ChangeShapes Go.WideShapes Go.ChangeAt Go.RowKit Go.Joins
open Go.ChangeMaps (open_string shut_string)

/-! ### Numbers out of bytes -/
theorem byte_or (n b : Nat) (h : n < 72057594037927936) (hb : b < 256) : n * 256 ||| b = n * 256 + b := by
  have := Nat.two_pow_add_eq_or_of_lt (i := 8) (b := b) (by simpa using hb) n
  rw [show n * 256 = 2 ^ 8 * n by omega, ← this]
theorem readB_take_lt (l : List UInt8) (k : Nat) (hk : k < 8) : readB (l.take k) < 72057594037927936 := by
  have h := readB_lt (l.take k)
  have e : (l.take k).length ≤ 7 := by rw [List.length_take]; omega
  have := Nat.pow_le_pow_right (n := 256) (by omega) e
  have e7 : (256 : Nat) ^ 7 = 72057594037927936 := by decide
  omega
set_option maxHeartbeats 2000000 in
theorem tnumber_c (s : ByteArray) (hs : s.size ≤ 8) {n : Nat} (hn : readB s.data.toList = n) (w : World) :
    Calls Tryz.prog 158 #[.string s] w fun e w' => e = .returned (.int .u64 (n : Int)) ∧ Wider w w' := by
  have HN := Lib.hid hn
  clear hn
  go_enter Tryz.func158, Tryz.ntmps158
  go_wp2
  go_loopw [3, 7] (fun v i wr => ∃ k : Nat, k ≤ s.size ∧ i = .int .i64 (k : Int) ∧ (∃ m : Nat, v = .int .u64 (m : Int) ∧ readB (s.data.toList.take k) = m) ∧ Wider w wr) (fun _ i _ => s.size - (intOf i).toNat)
  case atStart => exact ⟨0, by omega, by simp, ⟨0, rfl, rfl⟩, Wider.refl w⟩
  case round =>
    obtain ⟨k, hk, rfl, ⟨m, rfl, hm⟩, hg⟩ := hrel
    have HM := Lib.hid hm
    by_cases c : k < s.size
    · have lm := readB_take_lt s.data.toList k (by omega)
      rw [hm] at lm
      have hb := s[k].toNat_lt
      have i0 : (0 : Int) ≤ (k : Int) := by omega
      have i1 : (k : Int) < (s.size : Int) := by omega
      have o : bits BinOp.or IntKind.u64 ((m : Int) * 256) (s[k].toNat : Int) = ((m * 256 + s[k].toNat : Nat) : Int) := by
        have e := bits_or_u64_nat (m * 256) s[k].toNat (by omega) (by omega)
        rw [byte_or m _ lm (by omega)] at e
        rw [← e]; simp
      have TK : Hid (readB (s.data.toList.take (k + 1)) = m * 256 + s[k].toNat) := by
        show readB (s.data.toList.take (k + 1)) = m * 256 + s[k].toNat
        rw [List.take_succ_eq_append_getElem (by rw [← size_data]; exact c), readB_snoc, hm]; rfl
      have O := Lib.hid o
      clear hm o
      go_wp2
      go_roundw
      case rel => exact ⟨k + 1, by omega, by go_num, ⟨m * 256 + s[k].toNat, by rw [O.out], TK.out⟩, hg⟩
      case measure => simp [intOf]; omega
    · obtain rfl : k = s.size := by omega
      rw [List.take_of_length_le (by rw [size_data]; exact Nat.le_refl _)] at hm
      have e := HN.out
      obtain rfl : m = n := hm.symm.trans e
      clear hm e
      go_wp2
      go_ret
      exact ⟨rfl, hg⟩

theorem cellsB_word (n : Nat) (h : n < 65536) : cellsB (wordB n) = [.int .u8 ((n : Int) / 256), .int .u8 ((n : Int) % 256)] := by
  simp only [cellsB, wordB, List.map_cons, List.map_nil]
  rw [ofNat_toNat8 _ (by omega), ofNat_toNat8 _ (by omega)]; simp
set_option maxHeartbeats 2000000 in
theorem tapp_c {W w : World} (g : Wider W w) {v : Value} {n : Nat} {l : List UInt8} (h : w.ownsRow W.heap.size 5 1 v n (cellsB l)) (s : ByteArray) (hs : s.size < 65536) (hn : n < 2000000) {m : List UInt8} (hm : l ++ bytT s = m) :
    Calls Tryz.prog 75 #[v, .string s] w fun e w' => ∃ v', e = .returned v' ∧ Wider W w' ∧ w'.ownsRow W.heap.size 5 1 v' (n + 2 + s.size) (cellsB m) := by
  obtain ⟨i0, hi, hz0, hz1, hz2⟩ := infoN_parts
  have m0 : (0 : Int) ≤ (s.size : Int) := by omega
  have SIDE := Lib.hid (lies2 w (.int .u8 ((s.size : Int) / 256)) (.int .u8 ((s.size : Int) % 256)) 5 rfl rfl)
  have S3 : Hid (n + 2 ≤ maxLen) := by show n + 2 ≤ maxLen; unfold maxLen; omega
  have S4 : Hid ((n + 2) * 1 ≤ 140737488355328) := by show (n + 2) * 1 ≤ 140737488355328; omega
  have S5 : Hid (W.heap.size ≤ (w.alloc (.cells #[.int .u8 ((s.size : Int) / 256), .int .u8 ((s.size : Int) % 256)] 5)).heap.size) := by show W.heap.size ≤ (w.heap.push _).size; have := g.2; simp; omega
  have S6 : Hid (n + 2 + s.size ≤ maxLen) := by show n + 2 + s.size ≤ maxLen; unfold maxLen; omega
  have S7 : Hid (n + 2 + s.size ≤ 140737488355328) := by show n + 2 + s.size ≤ 140737488355328; omega
  have HO := Lib.hid (h.alloc (.cells #[.int .u8 ((s.size : Int) / 256), .int .u8 ((s.size : Int) % 256)] 5))
  have HG := Lib.hid g
  have HM : Hid (cellsB l ++ [.int .u8 ((s.size : Int) / 256), .int .u8 ((s.size : Int) % 256)] ++ Lib.strCells s = cellsB m) := by
    show _ = _
    rw [← hm, cellsB_append, ← cellsB_word _ hs, cellsB_str, List.append_assoc, ← cellsB_append]; rfl
  have HH := Lib.hid h
  clear g hm h
  go_enter Tryz.func75, Tryz.ntmps75
  go_wp2_with (first
    | (at_builtin; refine wpList_append_own _ rfl (.tmp 5) (.tmp 13) 24 rfl W.heap.size 5 i0 (.int .u8 0) 1 1 Tryz.underlying24 hi hz0 hz1 hz2 rfl (by decide) _ _ _ rfl HO.out ⟨w.heap.size, 0, none⟩ 2 2 [.int .u8 ((s.size : Int) / 256), .int .u8 ((s.size : Int) % 256)] rfl rfl SIDE.out.1 SIDE.out.2 S3.out S4.out S5.out ?_; intro v1 w1 hown1 hgrow1 _; have G1 := Lib.hid (wider_appendA HG.out HH.out hgrow1); have HO1 := Lib.hid hown1; clear hown1 hgrow1)
    | (at_builtin; refine Lib.wpList_append_own_string _ rfl (.tmp 15) (.tmp 16) 24 9 rfl W.heap.size 5 i0 Tryz.underlying24 Tryz.underlying9 hi hz0 hz1 hz2 _ _ _ rfl HO1.out s rfl S6.out S7.out G1.out.2 ?_; intro v2 w2 hown2 hgrow2 _; have G2 := Lib.hid (wider_append G1.out HO1.out hgrow2); have HO2 := Lib.hid hown2; clear hown2 hgrow2))
  go_ret
  exact ⟨_, rfl, G2.out, by rw [← HM.out]; exact HO2.out⟩
end Go.Proofs.YtilpimilbjcifaaGreatDoor

/- What the code of package tlv does: List and Encode: by walks. -/
namespace Go.Proofs.YtilpimilbjcifaaGreatDoor
set_option linter.unusedVariables false
open Go.ChangeShapes Go.WideShapes Go.ChangeAt Go.RowKit Go.Joins
open Go.ChangeMaps (open_string shut_string)

set_option maxRecDepth 20000 in
set_option maxHeartbeats 8000000 in
theorem tlist_a (A : Option Addr) (n cap : Nat) (l : List ByteArray) (w : World) (h : StrsAt w A l) (hn : l.length = n) (hl : n < 1000000) (hb : (bytsT l).length < 1000000) {T : ByteArray} {r : Nat} (hT : encT l = T) (hr : okT l = r) :
    Calls Tryz.prog 157 #[.slice A n cap] w fun e w' => e = .returned (.tuple #[.string T, .int .i64 (r : Int)]) ∧ Wider w w' := by
  have HN := Lib.hid hn
  have HT := Lib.hid hT
  have HR := Lib.hid hr
  have HB := Lib.hid hb
  clear hn hT hr hb
  go_enter Tryz.func157, Tryz.ntmps157
  go_wp2
  go_loopw [4, 9] (fun v i wr => ∃ k : Nat, k ≤ n ∧ i = .int .i64 (k : Int) ∧ (∃ (N : Nat) (L : List UInt8), bytsT (l.take k) = L ∧ wr.ownsRow w.heap.size 5 1 v N (cellsB L)) ∧ okT (l.take k) = 0 ∧ Wider w wr) (fun _ i _ => n - (intOf i).toNat)
  case atStart => exact ⟨0, by omega, by simp, ⟨0, [], rfl, World.ownsRow_nil _ _ _ _⟩, rfl, Wider.refl w⟩
  case round =>
    obtain ⟨k, hk, rfl, ⟨N, L, hL, hown⟩, hok, hg⟩ := hrel
    have HL := Lib.hid hL
    have HOK := Lib.hid hok
    have HG := Lib.hid hg
    clear hL hok
    by_cases c : k < n
    · have j0 : (0 : Int) ≤ (k : Int) := by omega
      have j1 : (k : Int) < (n : Int) := by omega
      obtain ⟨s, hx⟩ := next_some l k (by have := HN.out; omega)
      cases A with
      | none => exact absurd (h.none_ rfl) (by intro e; rw [e] at hx; simp at hx)
      | some a =>
        have SN2 := okT_snoc (l.take k) s HOK.out
        have TK := Lib.hid (take_next l k s hx)
        rw [← TK.out] at SN2
        have c0 := wkeep hg (h.cell a rfl k s hx)
        clear hx hg
        by_cases z : 65535 < s.size
        · rw [if_pos z] at SN2
          have R3 := okT_upto l (k + 1) SN2 (by decide)
          have e1 : r = 5 := by rw [← HR.out, R3]
          have e2 : T = ⟨#[]⟩ := by rw [← HT.out, encT_bad R3 (by decide)]
          subst e1 e2
          have z1 : decide ((65535 : Int) < (s.size : Int)) = true := decide_eq_true (by omega)
          have z2 : decide (65535 < s.size) = true := decide_eq_true z
          clear SN2 R3
          go_wp2
          go_ret2
          exact ⟨rfl, HG.out⟩
        · rw [if_neg z] at SN2
          have SN3 := Lib.hid SN2
          have z1 : decide ((65535 : Int) < (s.size : Int)) = false := decide_eq_false (by omega)
          have z2 : decide (65535 < s.size) = false := decide_eq_false z
          have hz : s.size < 65536 := by omega
          have e3 : bytsT (l.take (k + 1)) = L ++ bytT s := by rw [TK.out, bytsT_snoc, HL.out]
          have hNl : N < 2000000 := by
            have := HB.out
            have e : bytsT l = bytsT (l.take k) ++ bytsT (l.drop k) := by rw [← bytsT_append, List.take_append_drop]
            rw [e, List.length_append, HL.out] at this
            have q := hown.1
            rw [cellsB_length] at q
            omega
          obtain ⟨M, hM⟩ : ∃ M, L ++ bytT s = M := ⟨_, rfl⟩
          have HM := Lib.hid (e3.trans hM)
          have hcall := tapp_c HG.out hown s hz hNl hM
          clear e3 SN2 hM hown
          go_wp2_with (go_at_call 75; ((with_reducible refine hcall.mono ?_); rintro e w2 ⟨v2, rfl, G2, H2⟩))
          go_roundw
          case rel => exact ⟨k + 1, by omega, by go_num, ⟨_, M, HM.out, H2⟩, SN3.out, G2⟩
          case measure => simp [intOf]; omega
    · obtain rfl : k = n := by omega
      have e := HL.out
      have e0 := HOK.out
      rw [List.take_of_length_le (by have := HN.out; omega)] at e e0
      have e1 : r = 0 := by rw [← HR.out, e0]
      have e2 : T = mkB L := by rw [← HT.out, encT_good e0, e]
      subst e1 e2
      have hcv := own_text hown
      clear e e0 hown
      go_wp2
      go_ret2
      exact ⟨rfl, hg⟩

set_option maxRecDepth 20000 in
set_option maxHeartbeats 8000000 in
theorem tenc_a (A : Option Addr) (n cap : Nat) (l : List AtN) (w : World) (h : AtsAt w A l) (hn : l.length = n) (hl : n < 1000000) (ht : ∀ x ∈ l, x.t < 256) (hb : (bytsA l).length < 1000000) (hv : ∀ x ∈ l, x.v.size < 1000000) {T : ByteArray} {r : Nat} (hT : encA l = T) (hr : okA 0 l = r) :
    Calls Tryz.prog 36 #[.slice A n cap] w fun e w' => e = .returned (.tuple #[.string T, .int .i64 (r : Int)]) ∧ Wider w w' := by
  have HN := Lib.hid hn
  have HT := Lib.hid hT
  have HR := Lib.hid hr
  have HB := Lib.hid hb
  have HTT := Lib.hid ht
  clear hn hT hr hb ht hv
  go_enter Tryz.func36, Tryz.ntmps36
  go_wp2
  go_loopw [4, 5, 10] (fun v z i wr => ∃ k : Nat, k ≤ n ∧ i = .int .i64 (k : Int) ∧ (∃ (N : Nat) (L : List UInt8), bytsA (l.take k) = L ∧ wr.ownsRow w.heap.size 5 1 v N (cellsB L)) ∧ (∃ p : Nat, z = .int .u8 (p : Int) ∧ lastA 0 (l.take k) = p) ∧ okA 0 (l.take k) = 0 ∧ Wider w wr) (fun _ _ i _ => n - (intOf i).toNat)
  case atStart => exact ⟨0, by omega, by simp, ⟨0, [], rfl, World.ownsRow_nil _ _ _ _⟩, ⟨0, rfl, rfl⟩, rfl, Wider.refl w⟩
  case round =>
    obtain ⟨k, hk, rfl, ⟨N, L, hL, hown⟩, ⟨p, rfl, hp⟩, hok, hg⟩ := hrel
    have HL := Lib.hid hL
    have HOK := Lib.hid hok
    have HG := Lib.hid hg
    have HP := Lib.hid hp
    clear hL hok hp
    by_cases c : k < n
    · have j0 : (0 : Int) ≤ (k : Int) := by omega
      have j1 : (k : Int) < (n : Int) := by omega
      obtain ⟨x, hx⟩ := next_some l k (by have := HN.out; omega)
      cases A with
      | none => exact absurd (h.none_ rfl) (by intro e; rw [e] at hx; simp at hx)
      | some a =>
        have TK := Lib.hid (take_next l k x hx)
        have SN := okA_snoc (l.take k) 0 x HOK.out
        have hA := (h.cell a rfl k x hx).on hg
        have lt : x.t < 256 := HTT.out x (List.mem_of_getElem? hx)
        have H := Lib.hid h
        clear hx h
        obtain ⟨t, s⟩ := x
        have ⟨c0, c1⟩ := hA
        have d1 := hA.flat
        rw [← TK.out, HP.out] at SN
        simp only at c0 c1 d1 SN lt
        clear hA hg
        by_cases le : t ≤ p
        · rw [if_pos (.inl le)] at SN
          have R3 := okA_upto l (k + 1) SN (by decide)
          have e1 : r = 3 := by rw [← HR.out, R3]
          have e2 : T = ⟨#[]⟩ := by rw [← HT.out, encA_bad R3 (by decide)]
          subst e1 e2
          have z1 : decide ((t : Int) ≤ (p : Int)) = true := decide_eq_true (by omega)
          have z2 : decide (t ≤ p) = true := decide_eq_true le
          clear SN R3
          go_wp2
          go_ret2
          exact ⟨rfl, HG.out.alloc _⟩
        · have z1 : decide ((t : Int) ≤ (p : Int)) = false := decide_eq_false (by omega)
          have z2 : decide (t ≤ p) = false := decide_eq_false le
          by_cases sz : s.size = 0
          · rw [if_pos (.inr sz)] at SN
            have R3 := okA_upto l (k + 1) SN (by decide)
            have e1 : r = 3 := by rw [← HR.out, R3]
            have e2 : T = ⟨#[]⟩ := by rw [← HT.out, encA_bad R3 (by decide)]
            subst e1 e2
            obtain rfl : s = ByteArray.empty := by apply ba_ext; exact List.eq_nil_of_length_eq_zero (by rw [← size_data]; exact sz)
            clear SN R3
            go_wp2
            go_ret2
            exact ⟨rfl, HG.out.alloc _⟩
          · have s1 := ne_empty s sz
            have s2 := s1.1
            have s3 := s1.2
            clear s1
            rw [if_neg (by rintro (q | q); exact le q; exact sz q)] at SN
            by_cases z : 65535 < s.size
            · rw [if_pos z] at SN
              have R3 := okA_upto l (k + 1) SN (by decide)
              have e1 : r = 5 := by rw [← HR.out, R3]
              have e2 : T = ⟨#[]⟩ := by rw [← HT.out, encA_bad R3 (by decide)]
              subst e1 e2
              have z3 : decide ((65535 : Int) < (s.size : Int)) = true := decide_eq_true (by omega)
              have z4 : decide (65535 < s.size) = true := decide_eq_true z
              clear SN R3
              go_wp2
              go_ret2
              exact ⟨rfl, HG.out.alloc _⟩
            · rw [if_neg z] at SN
              have z3 : decide ((65535 : Int) < (s.size : Int)) = false := decide_eq_false (by omega)
              have z4 : decide (65535 < s.size) = false := decide_eq_false z
              have hz : s.size < 65536 := by omega
              have SN3 := Lib.hid SN
              clear SN
              go_upto_region 11 with fail
              obtain ⟨w1, hw1⟩ : ∃ w1, wr.alloc (.cells #[.int .u8 (t : Int), .string s] 89) = w1 := ⟨_, rfl⟩
              have n2 := new2 wr (.int .u8 (t : Int)) (.string s) 89
              have G1 := HG.out.alloc (.cells #[.int .u8 (t : Int), .string s] 89)
              have O1 := hown.alloc (.cells #[.int .u8 (t : Int), .string s] 89)
              have vb : ∀ i ∈ u4.ownBlock.toList, i < wr.heap.size := fun i hi => (hown.lt i (by simpa using hi)).2
              rw [hw1] at n2 G1 O1 ⊢
              obtain ⟨f0, f1, _, _⟩ := n2
              have l1 : wr.heap.size < w1.heap.size := wlt f0
              obtain ⟨B, hB⟩ : ∃ B, wr.heap.size = B := ⟨_, rfl⟩
              rw [hB] at f0 f1 vb l1 ⊢
              have e3 : bytsA (l.take (k + 1)) = L ++ [UInt8.ofNat t] ++ bytT s := by rw [TK.out, bytsA_snoc, HL.out]; simp [bytA, bytT]
              have hNl : N + 1 < 2000000 := by
                have := HB.out
                have e : bytsA l = bytsA (l.take k) ++ bytsA (l.drop k) := by rw [← bytsA_append, List.take_append_drop]
                rw [e, List.length_append, HL.out] at this
                have q := hown.1
                rw [cellsB_length] at q
                omega
              obtain ⟨M, hM⟩ : ∃ M, L ++ [UInt8.ofNat t] ++ bytT s = M := ⟨_, rfl⟩
              have HM := Lib.hid (e3.trans hM)
              obtain ⟨i0, hi, hz0, hz1, hz2⟩ := infoN_parts
              have SIDE := Lib.hid (lies1 w1 (.int .u8 (t : Int)) 5 rfl)
              have S3 : Hid (N + 1 ≤ maxLen) := by show N + 1 ≤ maxLen; unfold maxLen; omega
              have S4 : Hid ((N + 1) * 1 ≤ 140737488355328) := by show (N + 1) * 1 ≤ 140737488355328; omega
              have S5 : Hid (w.heap.size ≤ (w1.alloc (.cells #[.int .u8 (t : Int)] 5)).drew.heap.size) := by show w.heap.size ≤ (w1.heap.push _).size; have := G1.2; simp; omega
              have HO : Hid ((w1.alloc (.cells #[.int .u8 (t : Int)] 5)).drew.ownsRow w.heap.size 5 1 _ N (cellsB L)) := O1.alloc _
              have KEY : Hid (∀ w3 v3, w3.ownsRow w.heap.size 5 1 v3 (N + 1) (cellsB L ++ [.int .u8 (t : Int)]) → (w1.alloc (.cells #[.int .u8 (t : Int)] 5)).drew.grownBy w3 u4.ownBlock → w3.cell? ⟨B, 1, none⟩ = some (.string s) ∧ Calls Tryz.prog 75 #[v3, .string s] w3 fun e w' => ∃ v', e = .returned v' ∧ Wider w w' ∧ w'.ownsRow w.heap.size 5 1 v' (N + 1 + 2 + s.size) (cellsB M)) := by
                intro w3 v3 h3 g3
                have e : cellsB L ++ [.int .u8 (t : Int)] = cellsB (L ++ [UInt8.ofNat t]) := by rw [cellsB_append]; simp [cellsB]; omega
                rw [e] at h3
                refine ⟨?_, tapp_c (wider_appendAd G1 O1 g3) h3 s hz hNl hM⟩
                have q : w3.heap[B]? = w1.heap[B]? := by
                  rw [(grownBy_but g3).heap B (by show B < (w1.heap.push _).size; simp; omega) (fun m => by have := vb B m; omega)]
                  exact wheap ((Wider.refl w1).alloc _) l1
                rw [cell_heap (a := ⟨B, 1, none⟩) q]; exact f1
              clear hown O1 e3 hM hB vb hw1
              go_region_law (first
                | (refine step_append_own rfl (.tmp 31) (.tmp 34) 24 rfl w.heap.size 5 i0 (.int .u8 0) 1 1 Tryz.underlying24 hi hz0 hz1 hz2 rfl (by decide) _ _ _ rfl HO.out ⟨w1.heap.size, 0, none⟩ 1 1 [.int .u8 (t : Int)] rfl rfl SIDE.out.1 SIDE.out.2 S3.out S4.out S5.out ?_; intro v3 w3 h3 g3 _; have g1 := (KEY.out w3 v3 h3 g3).1; have hcall := Lib.hid (KEY.out w3 v3 h3 g3).2; clear h3 g3)
                | (go_simp; go_at_call 75; ((with_reducible refine hcall.out.mono ?_); rintro e w4 ⟨v4, rfl, G4, H4⟩)))
              all_goals
                go_wp2
                go_roundw
                case rel => exact ⟨k + 1, by omega, by go_num, ⟨_, M, HM.out, H4⟩, ⟨t, rfl, by rw [TK.out, lastA_snoc]⟩, SN3.out, G4⟩
                case measure => simp [intOf]; omega
    · obtain rfl : k = n := by omega
      have e := HL.out
      have e0 := HOK.out
      rw [List.take_of_length_le (by have := HN.out; omega)] at e e0
      have e1 : r = 0 := by rw [← HR.out, e0]
      have e2 : T = mkB L := by rw [← HT.out, encA_good e0, e]
      subst e1 e2
      have hcv := own_text hown
      clear e e0 hown
      go_wp2
      go_ret2
      exact ⟨rfl, hg⟩
end Go.Proofs.YtilpimilbjcifaaGreatDoor
