/- TCodeB TCodeC -/
import Derived.Test.YtoopdhgmdjienaaGreatDoorPkW07
import Derived.Test.YtoopdhgmdjienaaGreatDoorShelf
import Derived.Lib.BitFns
namespace Go.Proofs.YtoopdhgmdjienaaGreatDoor
set_option linter.unusedVariables false
open Go.ChangeShapes Go.WideShapes Go.ChangeAt Go.RowKit Go.Joins
open Go.ChangeMaps (open_string shut_string)
set_option maxRecDepth 20000 in
set_option maxHeartbeats 8000000 in
theorem tlist_a (A : Option Addr) (n cap : Nat) (l : List ByteArray) (w : World) (h : StrsAt w A l) (hn : l.length = n) (hl : n < 1000000) (hb : (bytsT l).length < 1000000) {T : ByteArray} {r : Nat} (hT : encT l = T) (hr : okT l = r) :
 Calls Tryz.prog 157 #[.slice A n cap] w fun e w' => e = .returned (.tuple #[.string T, .int .i64 (r : Int)]) ∧ Wider w w' := by
 have HN := Lib.hid hn
 have HT := Lib.hid hT
 have HR := Lib.hid hr
 have HB := Lib.hid hb
 clear hn hT hr hb
 go_enter Tryz.func157, Tryz.ntmps157
 go_wp2
 go_loopw [4, 9] (fun v i wr => ∃ k : Nat, k ≤ n ∧ i = .int .i64 (k : Int) ∧ (∃ (N : Nat) (L : List UInt8), bytsT (l.take k) = L ∧ wr.ownsRow w.heap.size 5 1 v N (cellsB L)) ∧ okT (l.take k) = 0 ∧ Wider w wr) (fun _ i _ => n - (intOf i).toNat)
 case atStart => exact ⟨0, by omega, by simp, ⟨0, [], rfl, World.ownsRow_nil _ _ _ _⟩, rfl, Wider.refl w⟩
 case round =>
  obtain ⟨k, hk, rfl, ⟨N, L, hL, hown⟩, hok, hg⟩ := hrel
  have HL := Lib.hid hL
  have HOK := Lib.hid hok
  have HG := Lib.hid hg
  clear hL hok
  by_cases c : k < n
  · have j0 : (0 : Int) ≤ (k : Int) := by omega
    have j1 : (k : Int) < (n : Int) := by omega
    obtain ⟨s, hx⟩ := next_some l k (by have := HN.out; omega)
    cases A with
    | none => exact absurd (h.none_ rfl) (by intro e; rw [e] at hx; simp at hx)
    | some a =>
      have SN2 := okT_snoc (l.take k) s HOK.out
      have TK := Lib.hid (take_next l k s hx)
      rw [← TK.out] at SN2
      have c0 := wkeep hg (h.cell a rfl k s hx)
      clear hx hg
      by_cases z : 65535 < s.size
      · rw [if_pos z] at SN2
        have R3 := okT_upto l (k + 1) SN2 (by decide)
        have e1 : r = 5 := by rw [← HR.out, R3]
        have e2 : T = ⟨#[]⟩ := by rw [← HT.out, encT_bad R3 (by decide)]
        subst e1 e2
        have z1 : decide ((65535 : Int) < (s.size : Int)) = true := decide_eq_true (by omega)
        have z2 : decide (65535 < s.size) = true := decide_eq_true z
        clear SN2 R3
        go_wp2
        go_ret2
        exact ⟨rfl, HG.out⟩
      · rw [if_neg z] at SN2
        have SN3 := Lib.hid SN2
        have z1 : decide ((65535 : Int) < (s.size : Int)) = false := decide_eq_false (by omega)
        have z2 : decide (65535 < s.size) = false := decide_eq_false z
        have hz : s.size < 65536 := by omega
        have e3 : bytsT (l.take (k + 1)) = L ++ bytT s := by rw [TK.out, bytsT_snoc, HL.out]
        have hNl : N < 2000000 := by
         have := HB.out
         have e : bytsT l = bytsT (l.take k) ++ bytsT (l.drop k) := by rw [← bytsT_append, List.take_append_drop]
         rw [e, List.length_append, HL.out] at this
         have q := hown.1
         rw [cellsB_length] at q
         omega
        obtain ⟨M, hM⟩ : ∃ M, L ++ bytT s = M := ⟨_, rfl⟩
        have HM := Lib.hid (e3.trans hM)
        have hcall := tapp_c HG.out hown s hz hNl hM
        clear e3 SN2 hM hown
        go_wp2_with (go_at_call 75; ((with_reducible refine hcall.mono ?_); rintro e w2 ⟨v2, rfl, G2, H2⟩))
        go_roundw
        case rel => exact ⟨k + 1, by omega, by go_num, ⟨_, M, HM.out, H2⟩, SN3.out, G2⟩
        case measure => simp [intOf]; omega
  · obtain rfl : k = n := by omega
    have e := HL.out
    have e0 := HOK.out
    rw [List.take_of_length_le (by have := HN.out; omega)] at e e0
    have e1 : r = 0 := by rw [← HR.out, e0]
    have e2 : T = mkB L := by rw [← HT.out, encT_good e0, e]
    subst e1 e2
    have hcv := own_text hown
    clear e e0 hown
    go_wp2
    go_ret2
    exact ⟨rfl, hg⟩
set_option maxRecDepth 20000 in
set_option maxHeartbeats 8000000 in
theorem tenc_a (A : Option Addr) (n cap : Nat) (l : List AtN) (w : World) (h : AtsAt w A l) (hn : l.length = n) (hl : n < 1000000) (ht : ∀ x ∈ l, x.t < 256) (hb : (bytsA l).length < 1000000) (hv : ∀ x ∈ l, x.v.size < 1000000) {T : ByteArray} {r : Nat} (hT : encA l = T) (hr : okA 0 l = r) :
 Calls Tryz.prog 36 #[.slice A n cap] w fun e w' => e = .returned (.tuple #[.string T, .int .i64 (r : Int)]) ∧ Wider w w' := by
 have HN := Lib.hid hn
 have HT := Lib.hid hT
 have HR := Lib.hid hr
 have HB := Lib.hid hb
 have HTT := Lib.hid ht
 clear hn hT hr hb ht hv
 go_enter Tryz.func36, Tryz.ntmps36
 go_wp2
 go_loopw [4, 5, 10] (fun v z i wr => ∃ k : Nat, k ≤ n ∧ i = .int .i64 (k : Int) ∧ (∃ (N : Nat) (L : List UInt8), bytsA (l.take k) = L ∧ wr.ownsRow w.heap.size 5 1 v N (cellsB L)) ∧ (∃ p : Nat, z = .int .u8 (p : Int) ∧ lastA 0 (l.take k) = p) ∧ okA 0 (l.take k) = 0 ∧ Wider w wr) (fun _ _ i _ => n - (intOf i).toNat)
 case atStart => exact ⟨0, by omega, by simp, ⟨0, [], rfl, World.ownsRow_nil _ _ _ _⟩, ⟨0, rfl, rfl⟩, rfl, Wider.refl w⟩
 case round =>
  obtain ⟨k, hk, rfl, ⟨N, L, hL, hown⟩, ⟨p, rfl, hp⟩, hok, hg⟩ := hrel
  have HL := Lib.hid hL
  have HOK := Lib.hid hok
  have HG := Lib.hid hg
  have HP := Lib.hid hp
  clear hL hok hp
  by_cases c : k < n
  · have j0 : (0 : Int) ≤ (k : Int) := by omega
    have j1 : (k : Int) < (n : Int) := by omega
    obtain ⟨x, hx⟩ := next_some l k (by have := HN.out; omega)
    cases A with
    | none => exact absurd (h.none_ rfl) (by intro e; rw [e] at hx; simp at hx)
    | some a =>
      have TK := Lib.hid (take_next l k x hx)
      have SN := okA_snoc (l.take k) 0 x HOK.out
      have hA := (h.cell a rfl k x hx).on hg
      have lt : x.t < 256 := HTT.out x (List.mem_of_getElem? hx)
      have H := Lib.hid h
      clear hx h
      obtain ⟨t, s⟩ := x
      have ⟨c0, c1⟩ := hA
      have d1 := hA.flat
      rw [← TK.out, HP.out] at SN
      simp only at c0 c1 d1 SN lt
      clear hA hg
      by_cases le : t ≤ p
      · rw [if_pos (.inl le)] at SN
        have R3 := okA_upto l (k + 1) SN (by decide)
        have e1 : r = 3 := by rw [← HR.out, R3]
        have e2 : T = ⟨#[]⟩ := by rw [← HT.out, encA_bad R3 (by decide)]
        subst e1 e2
        have z1 : decide ((t : Int) ≤ (p : Int)) = true := decide_eq_true (by omega)
        have z2 : decide (t ≤ p) = true := decide_eq_true le
        clear SN R3
        go_wp2
        go_ret2
        exact ⟨rfl, HG.out.alloc _⟩
      · have z1 : decide ((t : Int) ≤ (p : Int)) = false := decide_eq_false (by omega)
        have z2 : decide (t ≤ p) = false := decide_eq_false le
        by_cases sz : s.size = 0
        · rw [if_pos (.inr sz)] at SN
          have R3 := okA_upto l (k + 1) SN (by decide)
          have e1 : r = 3 := by rw [← HR.out, R3]
          have e2 : T = ⟨#[]⟩ := by rw [← HT.out, encA_bad R3 (by decide)]
          subst e1 e2
          obtain rfl : s = ByteArray.empty := by apply ba_ext; exact List.eq_nil_of_length_eq_zero (by rw [← size_data]; exact sz)
          clear SN R3
          go_wp2
          go_ret2
          exact ⟨rfl, HG.out.alloc _⟩
        · have s1 := ne_empty s sz
          have s2 := s1.1
          have s3 := s1.2
          clear s1
          rw [if_neg (by rintro (q | q); exact le q; exact sz q)] at SN
          by_cases z : 65535 < s.size
          · rw [if_pos z] at SN
            have R3 := okA_upto l (k + 1) SN (by decide)
            have e1 : r = 5 := by rw [← HR.out, R3]
            have e2 : T = ⟨#[]⟩ := by rw [← HT.out, encA_bad R3 (by decide)]
            subst e1 e2
            have z3 : decide ((65535 : Int) < (s.size : Int)) = true := decide_eq_true (by omega)
            have z4 : decide (65535 < s.size) = true := decide_eq_true z
            clear SN R3
            go_wp2
            go_ret2
            exact ⟨rfl, HG.out.alloc _⟩
          · rw [if_neg z] at SN
            have z3 : decide ((65535 : Int) < (s.size : Int)) = false := decide_eq_false (by omega)
            have z4 : decide (65535 < s.size) = false := decide_eq_false z
            have hz : s.size < 65536 := by omega
            have SN3 := Lib.hid SN
            clear SN
            go_upto_region 11 with fail
            obtain ⟨w1, hw1⟩ : ∃ w1, wr.alloc (.cells #[.int .u8 (t : Int), .string s] 89) = w1 := ⟨_, rfl⟩
            have n2 := new2 wr (.int .u8 (t : Int)) (.string s) 89
            have G1 := HG.out.alloc (.cells #[.int .u8 (t : Int), .string s] 89)
            have O1 := hown.alloc (.cells #[.int .u8 (t : Int), .string s] 89)
            have vb : ∀ i ∈ u4.ownBlock.toList, i < wr.heap.size := fun i hi => (hown.lt i (by simpa using hi)).2
            rw [hw1] at n2 G1 O1 ⊢
            obtain ⟨f0, f1, _, _⟩ := n2
            have l1 : wr.heap.size < w1.heap.size := wlt f0
            obtain ⟨B, hB⟩ : ∃ B, wr.heap.size = B := ⟨_, rfl⟩
            rw [hB] at f0 f1 vb l1 ⊢
            have e3 : bytsA (l.take (k + 1)) = L ++ [UInt8.ofNat t] ++ bytT s := by rw [TK.out, bytsA_snoc, HL.out]; simp [bytA, bytT]
            have hNl : N + 1 < 2000000 := by
             have := HB.out
             have e : bytsA l = bytsA (l.take k) ++ bytsA (l.drop k) := by rw [← bytsA_append, List.take_append_drop]
             rw [e, List.length_append, HL.out] at this
             have q := hown.1
             rw [cellsB_length] at q
             omega
            obtain ⟨M, hM⟩ : ∃ M, L ++ [UInt8.ofNat t] ++ bytT s = M := ⟨_, rfl⟩
            have HM := Lib.hid (e3.trans hM)
            obtain ⟨i0, hi, hz0, hz1, hz2⟩ := infoN_parts
            have SIDE := Lib.hid (lies1 w1 (.int .u8 (t : Int)) 5 rfl)
            have S3 : Hid (N + 1 ≤ maxLen) := by show N + 1 ≤ maxLen; unfold maxLen; omega
            have S4 : Hid ((N + 1) * 1 ≤ 140737488355328) := by show (N + 1) * 1 ≤ 140737488355328; omega
            have S5 : Hid (w.heap.size ≤ (w1.alloc (.cells #[.int .u8 (t : Int)] 5)).drew.heap.size) := by show w.heap.size ≤ (w1.heap.push _).size; have := G1.2; simp; omega
            have HO : Hid ((w1.alloc (.cells #[.int .u8 (t : Int)] 5)).drew.ownsRow w.heap.size 5 1 _ N (cellsB L)) := O1.alloc _
            have KEY : Hid (∀ w3 v3, w3.ownsRow w.heap.size 5 1 v3 (N + 1) (cellsB L ++ [.int .u8 (t : Int)]) → (w1.alloc (.cells #[.int .u8 (t : Int)] 5)).drew.grownBy w3 u4.ownBlock → w3.cell? ⟨B, 1, none⟩ = some (.string s) ∧ Calls Tryz.prog 75 #[v3, .string s] w3 fun e w' => ∃ v', e = .returned v' ∧ Wider w w' ∧ w'.ownsRow w.heap.size 5 1 v' (N + 1 + 2 + s.size) (cellsB M)) := by
             intro w3 v3 h3 g3
             have e : cellsB L ++ [.int .u8 (t : Int)] = cellsB (L ++ [UInt8.ofNat t]) := by rw [cellsB_append]; simp [cellsB]; omega
             rw [e] at h3
             refine ⟨?_, tapp_c (wider_appendAd G1 O1 g3) h3 s hz hNl hM⟩
             have q : w3.heap[B]? = w1.heap[B]? := by
              rw [(grownBy_but g3).heap B (by show B < (w1.heap.push _).size; simp; omega) (fun m => by have := vb B m; omega)]
              exact wheap ((Wider.refl w1).alloc _) l1
             rw [cell_heap (a := ⟨B, 1, none⟩) q]; exact f1
            clear hown O1 e3 hM hB vb hw1
            go_region_law (first
             | (refine step_append_own rfl (.tmp 31) (.tmp 34) 24 rfl w.heap.size 5 i0 (.int .u8 0) 1 1 Tryz.underlying24 hi hz0 hz1 hz2 rfl (by decide) _ _ _ rfl HO.out ⟨w1.heap.size, 0, none⟩ 1 1 [.int .u8 (t : Int)] rfl rfl SIDE.out.1 SIDE.out.2 S3.out S4.out S5.out ?_; intro v3 w3 h3 g3 _; have g1 := (KEY.out w3 v3 h3 g3).1; have hcall := Lib.hid (KEY.out w3 v3 h3 g3).2; clear h3 g3)
             | (go_simp; go_at_call 75; ((with_reducible refine hcall.out.mono ?_); rintro e w4 ⟨v4, rfl, G4, H4⟩)))
            all_goals
             go_wp2
             go_roundw
             case rel => exact ⟨k + 1, by omega, by go_num, ⟨_, M, HM.out, H4⟩, ⟨t, rfl, by rw [TK.out, lastA_snoc]⟩, SN3.out, G4⟩
             case measure => simp [intOf]; omega
  · obtain rfl : k = n := by omega
    have e := HL.out
    have e0 := HOK.out
    rw [List.take_of_length_le (by have := HN.out; omega)] at e e0
    have e1 : r = 0 := by rw [← HR.out, e0]
    have e2 : T = mkB L := by rw [← HT.out, encA_good e0, e]
    subst e1 e2
    have hcv := own_text hown
    clear e e0 hown
    go_wp2
    go_ret2
    exact ⟨rfl, hg⟩
end Go.Proofs.YtoopdhgmdjienaaGreatDoor
namespace Go.Proofs.YtoopdhgmdjienaaGreatDoor
set_option linter.unusedVariables false
set_option maxRecDepth 20000
open Go.ChangeShapes Go.WideShapes Go.ChangeAt Go.RowKit Go.Joins
open Go.ChangeMaps (open_string shut_string)
theorem numB_bits (n : Nat) (h : n < 18446744073709551616) : (Lib.bitLen n + 7) / 8 = (numB n).length := by
 induction n using Nat.strongRecOn with
 | ind n ih =>
   by_cases z : n = 0
   · subst z; rw [numB_0]; rfl
   · rw [numB_pos n z, List.length_append, List.length_singleton]
     by_cases c : n < 256
     · have e : n / 256 = 0 := by omega
       have l8 := Lib.bitLen_le8 ⟨n, c⟩
       have l1 := Lib.bitLen_half n z (by omega)
       simp only at l8
       rw [e, numB_0, List.length_nil]; omega
     · have l := Lib.bitLen_shift8 n (by omega) h
       have q := ih (n / 256) (by omega) (by omega)
       rw [l]; omega
def digB (n k p : Nat) : Nat := n / 256 ^ (k - 1 - p) % 256
theorem numB_digs (k n : Nat) (h : (numB n).length = k) : numB n = (List.range k).map fun p => UInt8.ofNat (digB n k p) := by
 induction k generalizing n with
 | zero => rw [List.eq_nil_of_length_eq_zero h]; rfl
 | succ k ih =>
   by_cases z : n = 0
   · subst z; rw [numB_0] at h; simp at h
   · rw [numB_pos n z] at h ⊢
     rw [List.length_append, List.length_singleton] at h
     rw [List.range_succ, List.map_append, ih (n / 256) (by omega)]
     congr 1
     · apply List.map_congr_left
       intro p hp
       have hp' : p < k := by simpa using hp
       show UInt8.ofNat (digB (n / 256) k p) = UInt8.ofNat (digB n (k + 1) p)
       have e : k + 1 - 1 - p = (k - 1 - p) + 1 := by omega
       unfold digB
       rw [e, Nat.pow_succ, Nat.mul_comm, ← Nat.div_div_eq_div_mul]
     · simp [digB]
theorem numB_text (n k : Nat) (h : (numB n).length = k) : strOfNums ((List.range k).map fun p => ((digB n k p : Nat) : Int)) = mkB (numB n) := by
 apply ba_ext
 rw [strOfNums_data, mkB_data, numB_digs k n h, List.map_map]
 rfl
set_option maxHeartbeats 4000000 in
theorem tnum_a (n : Nat) (w : World) (h : n < 18446744073709551616) {T : ByteArray} (hT : mkB (numB n) = T) :
 Calls Tryz.prog 110 #[.int .u64 (n : Int)] w fun e w' => e = .returned (.string T) ∧ Wider w w' := by
 have hb := fun W : World => Tryz.bits_Len64 (n : Int) W (by omega) (by omega)
 simp only [Int.toNat_natCast] at hb
 obtain ⟨k, hk⟩ : ∃ k, (numB n).length = k := ⟨_, rfl⟩
 have k8 : k ≤ 8 := by rw [← hk]; exact numB_len n h
 have e0 := numB_bits n h
 obtain ⟨b, hbl⟩ : ∃ b, Lib.bitLen n = b := ⟨_, rfl⟩
 rw [hk, hbl] at e0
 rw [hbl] at hb
 have b64 : b ≤ 71 := by omega
 have m1 : ((b : Int) + 8 - 1) / 8 = (k : Int) := by omega
 have hmk := makeN k (by omega)
 have hw : Bts (w.alloc (.cells (zerosN k) 5)) w.heap.size k (fun _ => 0) := Bts.made w k
 have HK := Lib.hid hk
 have HT := Lib.hid hT
 clear hbl e0 hk hT
 go_enter Tryz.func110, Tryz.ntmps110
 go_wp2_with (go_at_call 156; ((with_reducible refine (hb _).mono ?_); rintro e w2 ⟨rfl, rfl⟩))
 go_wp2
 obtain ⟨w1, hw1⟩ : ∃ w1, w2.alloc (.cells (zerosN k) 5) = w1 := ⟨_, rfl⟩
 have G1 := (Wider.refl w2).alloc (.cells (zerosN k) 5)
 rw [hw1] at hw G1 ⊢
 obtain ⟨B, hB⟩ : ∃ B, w2.heap.size = B := ⟨_, rfl⟩
 have HB : Hid (w2.heap.size ≤ B) := by show _ ≤ _; omega
 rw [hB] at hw ⊢
 clear hw1 hB
 go_loopw [0, 4] (fun v i wr => ∃ j : Nat, j ≤ k ∧ i = .int .i64 ((k : Int) - 1 - (j : Int)) ∧ (∃ m : Nat, v = .int .u64 (m : Int) ∧ n / 256 ^ j = m) ∧ Bts wr B k (fun p => if p < k - j then 0 else ((digB n k p : Nat) : Int)) ∧ Wider w2 wr) (fun _ i _ => (intOf i + 1).toNat)
 case atStart => exact ⟨0, by omega, by simp, ⟨n, rfl, by simp⟩, hw.congr fun p hp => by rw [if_pos (by omega)], G1⟩
 case round =>
  obtain ⟨j, hj, rfl, ⟨m, rfl, hm⟩, hO, hg⟩ := hrel
  have HM := Lib.hid hm
  clear hm hw
  by_cases c : j < k
  · have i0 : (0 : Int) ≤ (k : Int) - 1 - (j : Int) := by omega
    have i1 : (k : Int) - 1 - (j : Int) < (k : Int) := by omega
    obtain ⟨p, hp⟩ : ∃ p : Nat, (k : Int) - 1 - (j : Int) = (p : Int) := ⟨k - 1 - j, by omega⟩
    have HP := Lib.hid hp
    rw [hp] at i0 i1 ⊢
    clear hp
    have p1 : p < k := by omega
    have d0 := hO.cell p p1
    have d1 := hO.free p p1
    have m64 : m < 18446744073709551616 := by rw [← HM.out]; exact Nat.lt_of_le_of_lt (Nat.div_le_self _ _) h
    have NX : Hid (n / 256 ^ (j + 1) = m / 256) := by
     show _ = _
     rw [← HM.out, Nat.pow_succ, Nat.div_div_eq_div_mul]
    have hput : ∀ q, q < k → (if q < k - (j + 1) then (0 : Int) else ((digB n k q : Nat) : Int)) = if q = p then (m : Int) % 256 else if q < k - j then 0 else ((digB n k q : Nat) : Int) := by
     intro q hq
     have hpp := HP.out
     by_cases e : q = p
     · subst e
       rw [if_pos rfl, if_neg (by omega)]
       have e2 : k - 1 - q = j := by omega
       unfold digB
       rw [e2, HM.out]; omega
     · rw [if_neg e]
       by_cases e3 : q < k - (j + 1)
       · rw [if_pos e3, if_pos (by omega)]
       · rw [if_neg e3, if_neg (by omega)]
    have HPUT := Lib.hid hput
    have HO := Lib.hid hO
    clear hO hput
    go_wp2
    go_roundw
    case rel => exact ⟨j + 1, by omega, by (have := HP.out); congr 1; omega, ⟨m / 256, by congr 1, NX.out⟩, HO.out.put p1 HPUT.out, hg.setCell HB.out _⟩
    case measure => simp [intOf]
  · obtain rfl : j = k := by omega
    have e : (j : Int) - 1 - (j : Int) = -1 := by omega
    rw [e]
    have hcv := (hO.congr (u := fun p => ((digB n j p : Nat) : Int)) fun p hp => by rw [if_neg (by omega)]).conv j ((numB_text n j HK.out).trans HT.out)
    clear hO e
    go_wp2
    go_ret
    exact ⟨rfl, hg⟩
theorem rnum_long {l : List UInt8} {most v r : Nat} (hr : rnumN l most = (v, r)) (h : 8 < l.length ∨ l.head? = some 0) : v = 0 ∧ r = 3 := by
 unfold rnumN at hr
 rw [if_pos h] at hr
 injection hr with a b; exact ⟨a.symm, b.symm⟩
theorem rnum_over {l : List UInt8} {most v r : Nat} (hr : rnumN l most = (v, r)) (h : ¬ (8 < l.length ∨ l.head? = some 0)) : if most < readB l then v = 0 ∧ r = 3 else v = readB l ∧ r = 0 := by
 unfold rnumN at hr
 rw [if_neg h] at hr
 split at hr
 · injection hr with a b; rw [if_pos (by assumption)]; exact ⟨a.symm, b.symm⟩
 · injection hr with a b; rw [if_neg (by assumption)]; exact ⟨a.symm, b.symm⟩
set_option maxHeartbeats 4000000 in
theorem treadnum_a (s : ByteArray) (most : Nat) (w : World) (hs : s.size < 1000000) (hm : most < 18446744073709551616) {v r : Nat} (hr : rnumN s.data.toList most = (v, r)) :
 Calls Tryz.prog 122 #[.string s, .int .u64 (most : Int)] w fun e w' => e = .returned (.tuple #[.int .u64 (v : Int), .int .i64 (r : Int)]) ∧ Wider w w' := by
 have rest : ∀ (hz : s.size ≤ 8) (h : ¬ (8 < s.data.toList.length ∨ s.data.toList.head? = some 0)) {n : Nat}, readB s.data.toList = n → if most < n then v = 0 ∧ r = 3 else v = n ∧ r = 0 := fun hz h n e => e ▸ rnum_over hr h
 by_cases z8 : 8 < s.size
 · obtain ⟨rfl, rfl⟩ := rnum_long hr (.inl (by rw [← size_data]; exact z8))
   have f1 : decide ((8 : Int) < (s.size : Int)) = true := decide_eq_true (by omega)
   have f2 : decide (8 < s.size) = true := decide_eq_true z8
   clear rest hr
   go_enter Tryz.func122, Tryz.ntmps122
   go_wp2
   go_ret2
   exact ⟨rfl, Wider.refl w⟩
 · have f1 : decide ((8 : Int) < (s.size : Int)) = false := decide_eq_false (by omega)
   have f2 : decide (8 < s.size) = false := decide_eq_false z8
   obtain ⟨n, hn⟩ : ∃ n, readB s.data.toList = n := ⟨_, rfl⟩
   have zn := fun W : World => tnumber_c s (by omega) hn W
   by_cases z0 : s.size = 0
   · have t0 : s.data.toList = [] := List.eq_nil_of_length_eq_zero (by rw [← size_data]; exact z0)
     have s2 : s.toList.isEmpty = true := by rw [ByteArray.toList_eq, t0]; rfl
     have s3 : s.toList = [] := by rw [ByteArray.toList_eq, t0]
     have e := rest (by omega) (by rw [t0]; simp) hn
     obtain rfl : n = 0 := by rw [← hn, t0]; rfl
     rw [if_neg (by omega)] at e
     obtain ⟨rfl, rfl⟩ := e
     have f3 : decide ((most : Int) < 0) = false := decide_eq_false (by omega)
     clear rest hr hn t0 z0
     go_enter Tryz.func122, Tryz.ntmps122
     go_wp2_with (go_at_call 158; ((with_reducible refine (zn _).mono ?_); rintro e w2 ⟨rfl, g⟩))
     go_ret2
     exact ⟨rfl, g⟩
   · have s1 := ne_empty s z0
     have s2 := s1.1
     have s3 := s1.2
     have g0 : 0 < s.size := by omega
     have i0 : (0 : Int) < (s.size : Int) := by omega
     obtain ⟨b, l, hl⟩ : ∃ b l, s.data.toList = b :: l := by
      cases q : s.data.toList with
      | nil => exact absurd (by rw [size_data, q]; rfl) z0
      | cons b l => exact ⟨b, l, rfl⟩
     have e0 : s[0].toNat = b.toNat := by
      have : s.data.toList[0]'(by rw [hl]; simp) = b := by simp [hl]
      rw [← this]; rfl
     by_cases b0 : b = 0
     · subst b0
       obtain ⟨rfl, rfl⟩ := rnum_long hr (.inr (by rw [hl]; rfl))
       have f3 : ((s[0].toNat : Int) == 0) = true := by rw [beq_iff_eq, e0]; rfl
       have f4 : s[0].toNat = 0 := by rw [e0]; rfl
       clear rest hr hn s1 hl e0
       go_enter Tryz.func122, Tryz.ntmps122
       go_wp2
       go_ret2
       exact ⟨rfl, Wider.refl w⟩
     · have bn : b.toNat ≠ 0 := fun q => b0 (UInt8.toNat_inj.1 q)
       have f3 : ((s[0].toNat : Int) == 0) = false := by rw [beq_eq_false_iff_ne, e0]; omega
       have f4 : ¬ s[0].toNat = 0 := by rw [e0]; exact bn
       have e := rest (by omega) (by
        rw [hl]; simp only [List.head?_cons, Option.some.injEq]
        rintro (q | q)
        · rw [← hl, ← size_data] at q; omega
        · exact b0 q) hn
       clear rest hr s1 hl e0
       by_cases q : most < n
       · rw [if_pos q] at e
         obtain ⟨rfl, rfl⟩ := e
         have f5 : decide ((most : Int) < (n : Int)) = true := decide_eq_true (by omega)
         have f6 : decide (most < n) = true := decide_eq_true q
         clear hn
         go_enter Tryz.func122, Tryz.ntmps122
         go_wp2_with (go_at_call 158; ((with_reducible refine (zn _).mono ?_); rintro e w2 ⟨rfl, g⟩))
         go_ret2
         exact ⟨rfl, g⟩
       · rw [if_neg q] at e
         obtain ⟨rfl, rfl⟩ := e
         have f5 : decide ((most : Int) < (v : Int)) = false := decide_eq_false (by omega)
         have f6 : decide (most < v) = false := decide_eq_false q
         clear hn
         go_enter Tryz.func122, Tryz.ntmps122
         go_wp2_with (go_at_call 158; ((with_reducible refine (zn _).mono ?_); rintro e w2 ⟨rfl, g⟩))
         go_ret2
         exact ⟨rfl, g⟩
end Go.Proofs.YtoopdhgmdjienaaGreatDoor
