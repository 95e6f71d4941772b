/- What the code of package tlv does: List and Encode: by walks. -/
import Derived.Test.YtemfionibnlniaaTCodeA
namespace Go.Proofs.Ytemfionibnlniaa
set_option linter.unusedVariables false
open Go.ChangeShapes Go.WideShapes Go.ChangeAt Go.RowKit Go.Joins
open Go.ChangeMaps (open_string shut_string)

set_option maxHeartbeats 8000000 in
theorem tlist_a (A : Option Addr) (n cap : Nat) (l : List ByteArray) (w : World) (h : StrsAt w A l) (hn : l.length = n) (hl : n < 1000000) (hb : (bytsT l).length < 1000000) {T : ByteArray} {r : Nat} (hT : encT l = T) (hr : okT l = r) :
    Calls Try.prog 26 #[.slice A n cap] w fun e w' => e = .returned (.tuple #[.string T, .int .i64 (r : Int)]) ∧ Wider w w' := by
  have HN := Lib.hid hn
  have HT := Lib.hid hT
  have HR := Lib.hid hr
  have HB := Lib.hid hb
  clear hn hT hr hb
  go_enter Try.func26, Try.ntmps26
  go_wp2
  go_loopw [4, 9] (fun v i wr => ∃ k : Nat, k ≤ n ∧ i = .int .i64 (k : Int) ∧ (∃ (N : Nat) (L : List UInt8), bytsT (l.take k) = L ∧ wr.ownsRow w.heap.size 5 1 v N (cellsB L)) ∧ okT (l.take k) = 0 ∧ Wider w wr) (fun _ i _ => n - (intOf i).toNat)
  case atStart => exact ⟨0, by omega, by simp, ⟨0, [], rfl, World.ownsRow_nil _ _ _ _⟩, rfl, Wider.refl w⟩
  case round =>
    obtain ⟨k, hk, rfl, ⟨N, L, hL, hown⟩, hok, hg⟩ := hrel
    have HL := Lib.hid hL
    have HOK := Lib.hid hok
    have HG := Lib.hid hg
    clear hL hok
    by_cases c : k < n
    · have j0 : (0 : Int) ≤ (k : Int) := by omega
      have j1 : (k : Int) < (n : Int) := by omega
      obtain ⟨s, hx⟩ := next_some l k (by have := HN.out; omega)
      cases A with
      | none => exact absurd (h.none_ rfl) (by intro e; rw [e] at hx; simp at hx)
      | some a =>
        have SN2 := okT_snoc (l.take k) s HOK.out
        have TK := Lib.hid (take_next l k s hx)
        rw [← TK.out] at SN2
        have c0 := wkeep hg (h.cell a rfl k s hx)
        clear hx hg
        by_cases z : 65535 < s.size
        · rw [if_pos z] at SN2
          have R3 := okT_upto l (k + 1) SN2 (by decide)
          have e1 : r = 5 := by rw [← HR.out, R3]
          have e2 : T = ⟨#[]⟩ := by rw [← HT.out, encT_bad R3 (by decide)]
          subst e1 e2
          have z1 : decide ((65535 : Int) < (s.size : Int)) = true := decide_eq_true (by omega)
          have z2 : decide (65535 < s.size) = true := decide_eq_true z
          clear SN2 R3
          go_wp2
          go_ret2
          exact ⟨rfl, HG.out⟩
        · rw [if_neg z] at SN2
          have SN3 := Lib.hid SN2
          have z1 : decide ((65535 : Int) < (s.size : Int)) = false := decide_eq_false (by omega)
          have z2 : decide (65535 < s.size) = false := decide_eq_false z
          have hz : s.size < 65536 := by omega
          have e3 : bytsT (l.take (k + 1)) = L ++ bytT s := by rw [TK.out, bytsT_snoc, HL.out]
          have hNl : N < 2000000 := by
            have := HB.out
            have e : bytsT l = bytsT (l.take k) ++ bytsT (l.drop k) := by rw [← bytsT_append, List.take_append_drop]
            rw [e, List.length_append, HL.out] at this
            have q := hown.1
            rw [cellsB_length] at q
            omega
          obtain ⟨M, hM⟩ : ∃ M, L ++ bytT s = M := ⟨_, rfl⟩
          have HM := Lib.hid (e3.trans hM)
          have hcall := tapp_c HG.out hown s hz hNl hM
          clear e3 SN2 hM hown
          go_wp2_with (go_at_call 32; ((with_reducible refine hcall.mono ?_); rintro e w2 ⟨v2, rfl, G2, H2⟩))
          go_roundw
          case rel => exact ⟨k + 1, by omega, by go_num, ⟨_, M, HM.out, H2⟩, SN3.out, G2⟩
          case measure => simp [intOf]; omega
    · obtain rfl : k = n := by omega
      have e := HL.out
      have e0 := HOK.out
      rw [List.take_of_length_le (by have := HN.out; omega)] at e e0
      have e1 : r = 0 := by rw [← HR.out, e0]
      have e2 : T = mkB L := by rw [← HT.out, encT_good e0, e]
      subst e1 e2
      have hcv := own_text hown
      clear e e0 hown
      go_wp2
      go_ret2
      exact ⟨rfl, hg⟩

set_option maxHeartbeats 8000000 in
theorem tenc_a (A : Option Addr) (n cap : Nat) (l : List AtN) (w : World) (h : AtsAt w A l) (hn : l.length = n) (hl : n < 1000000) (ht : ∀ x ∈ l, x.t < 256) (hb : (bytsA l).length < 1000000) (hv : ∀ x ∈ l, x.v.size < 1000000) {T : ByteArray} {r : Nat} (hT : encA l = T) (hr : okA 0 l = r) :
    Calls Try.prog 15 #[.slice A n cap] w fun e w' => e = .returned (.tuple #[.string T, .int .i64 (r : Int)]) ∧ Wider w w' := by
  have HN := Lib.hid hn
  have HT := Lib.hid hT
  have HR := Lib.hid hr
  have HB := Lib.hid hb
  have HTT := Lib.hid ht
  clear hn hT hr hb ht hv
  go_enter Try.func15, Try.ntmps15
  go_wp2
  go_loopw [4, 5, 10] (fun v z i wr => ∃ k : Nat, k ≤ n ∧ i = .int .i64 (k : Int) ∧ (∃ (N : Nat) (L : List UInt8), bytsA (l.take k) = L ∧ wr.ownsRow w.heap.size 5 1 v N (cellsB L)) ∧ (∃ p : Nat, z = .int .u8 (p : Int) ∧ lastA 0 (l.take k) = p) ∧ okA 0 (l.take k) = 0 ∧ Wider w wr) (fun _ _ i _ => n - (intOf i).toNat)
  case atStart => exact ⟨0, by omega, by simp, ⟨0, [], rfl, World.ownsRow_nil _ _ _ _⟩, ⟨0, rfl, rfl⟩, rfl, Wider.refl w⟩
  case round =>
    obtain ⟨k, hk, rfl, ⟨N, L, hL, hown⟩, ⟨p, rfl, hp⟩, hok, hg⟩ := hrel
    have HL := Lib.hid hL
    have HOK := Lib.hid hok
    have HG := Lib.hid hg
    have HP := Lib.hid hp
    clear hL hok hp
    by_cases c : k < n
    · have j0 : (0 : Int) ≤ (k : Int) := by omega
      have j1 : (k : Int) < (n : Int) := by omega
      obtain ⟨x, hx⟩ := next_some l k (by have := HN.out; omega)
      cases A with
      | none => exact absurd (h.none_ rfl) (by intro e; rw [e] at hx; simp at hx)
      | some a =>
        have TK := Lib.hid (take_next l k x hx)
        have SN := okA_snoc (l.take k) 0 x HOK.out
        have hA := (h.cell a rfl k x hx).on hg
        have lt : x.t < 256 := HTT.out x (List.mem_of_getElem? hx)
        have H := Lib.hid h
        clear hx h
        obtain ⟨t, s⟩ := x
        have ⟨c0, c1⟩ := hA
        have d1 := hA.flat
        rw [← TK.out, HP.out] at SN
        simp only at c0 c1 d1 SN lt
        clear hA hg
        by_cases le : t ≤ p
        · rw [if_pos (.inl le)] at SN
          have R3 := okA_upto l (k + 1) SN (by decide)
          have e1 : r = 3 := by rw [← HR.out, R3]
          have e2 : T = ⟨#[]⟩ := by rw [← HT.out, encA_bad R3 (by decide)]
          subst e1 e2
          have z1 : decide ((t : Int) ≤ (p : Int)) = true := decide_eq_true (by omega)
          have z2 : decide (t ≤ p) = true := decide_eq_true le
          clear SN R3
          go_wp2
          go_ret2
          exact ⟨rfl, HG.out.alloc _⟩
        · have z1 : decide ((t : Int) ≤ (p : Int)) = false := decide_eq_false (by omega)
          have z2 : decide (t ≤ p) = false := decide_eq_false le
          by_cases sz : s.size = 0
          · rw [if_pos (.inr sz)] at SN
            have R3 := okA_upto l (k + 1) SN (by decide)
            have e1 : r = 3 := by rw [← HR.out, R3]
            have e2 : T = ⟨#[]⟩ := by rw [← HT.out, encA_bad R3 (by decide)]
            subst e1 e2
            obtain rfl : s = ByteArray.empty := by apply ba_ext; exact List.eq_nil_of_length_eq_zero (by rw [← size_data]; exact sz)
            clear SN R3
            go_wp2
            go_ret2
            exact ⟨rfl, HG.out.alloc _⟩
          · have s1 := ne_empty s sz
            have s2 := s1.1
            have s3 := s1.2
            clear s1
            rw [if_neg (by rintro (q | q); exact le q; exact sz q)] at SN
            by_cases z : 65535 < s.size
            · rw [if_pos z] at SN
              have R3 := okA_upto l (k + 1) SN (by decide)
              have e1 : r = 5 := by rw [← HR.out, R3]
              have e2 : T = ⟨#[]⟩ := by rw [← HT.out, encA_bad R3 (by decide)]
              subst e1 e2
              have z3 : decide ((65535 : Int) < (s.size : Int)) = true := decide_eq_true (by omega)
              have z4 : decide (65535 < s.size) = true := decide_eq_true z
              clear SN R3
              go_wp2
              go_ret2
              exact ⟨rfl, HG.out.alloc _⟩
            · rw [if_neg z] at SN
              have z3 : decide ((65535 : Int) < (s.size : Int)) = false := decide_eq_false (by omega)
              have z4 : decide (65535 < s.size) = false := decide_eq_false z
              have hz : s.size < 65536 := by omega
              have SN3 := Lib.hid SN
              clear SN
              go_upto_region 11 with fail
              obtain ⟨w1, hw1⟩ : ∃ w1, wr.alloc (.cells #[.int .u8 (t : Int), .string s] 38) = w1 := ⟨_, rfl⟩
              have n2 := new2 wr (.int .u8 (t : Int)) (.string s) 38
              have G1 := HG.out.alloc (.cells #[.int .u8 (t : Int), .string s] 38)
              have O1 := hown.alloc (.cells #[.int .u8 (t : Int), .string s] 38)
              have vb : ∀ i ∈ u4.ownBlock.toList, i < wr.heap.size := fun i hi => (hown.lt i (by simpa using hi)).2
              rw [hw1] at n2 G1 O1 ⊢
              obtain ⟨f0, f1, _, _⟩ := n2
              have l1 : wr.heap.size < w1.heap.size := wlt f0
              obtain ⟨B, hB⟩ : ∃ B, wr.heap.size = B := ⟨_, rfl⟩
              rw [hB] at f0 f1 vb l1 ⊢
              have e3 : bytsA (l.take (k + 1)) = L ++ [UInt8.ofNat t] ++ bytT s := by rw [TK.out, bytsA_snoc, HL.out]; simp [bytA, bytT]
              have hNl : N + 1 < 2000000 := by
                have := HB.out
                have e : bytsA l = bytsA (l.take k) ++ bytsA (l.drop k) := by rw [← bytsA_append, List.take_append_drop]
                rw [e, List.length_append, HL.out] at this
                have q := hown.1
                rw [cellsB_length] at q
                omega
              obtain ⟨M, hM⟩ : ∃ M, L ++ [UInt8.ofNat t] ++ bytT s = M := ⟨_, rfl⟩
              have HM := Lib.hid (e3.trans hM)
              obtain ⟨i0, hi, hz0, hz1, hz2⟩ := infoN_parts
              have SIDE := Lib.hid (lies1 w1 (.int .u8 (t : Int)) 5 rfl)
              have S3 : Hid (N + 1 ≤ maxLen) := by show N + 1 ≤ maxLen; unfold maxLen; omega
              have S4 : Hid ((N + 1) * 1 ≤ 140737488355328) := by show (N + 1) * 1 ≤ 140737488355328; omega
              have S5 : Hid (w.heap.size ≤ (w1.alloc (.cells #[.int .u8 (t : Int)] 5)).drew.heap.size) := by show w.heap.size ≤ (w1.heap.push _).size; have := G1.2; simp; omega
              have HO : Hid ((w1.alloc (.cells #[.int .u8 (t : Int)] 5)).drew.ownsRow w.heap.size 5 1 _ N (cellsB L)) := O1.alloc _
              have KEY : Hid (∀ w3 v3, w3.ownsRow w.heap.size 5 1 v3 (N + 1) (cellsB L ++ [.int .u8 (t : Int)]) → (w1.alloc (.cells #[.int .u8 (t : Int)] 5)).drew.grownBy w3 u4.ownBlock → w3.cell? ⟨B, 1, none⟩ = some (.string s) ∧ Calls Try.prog 32 #[v3, .string s] w3 fun e w' => ∃ v', e = .returned v' ∧ Wider w w' ∧ w'.ownsRow w.heap.size 5 1 v' (N + 1 + 2 + s.size) (cellsB M)) := by
                intro w3 v3 h3 g3
                have e : cellsB L ++ [.int .u8 (t : Int)] = cellsB (L ++ [UInt8.ofNat t]) := by rw [cellsB_append]; simp [cellsB]; omega
                rw [e] at h3
                refine ⟨?_, tapp_c (wider_appendAd G1 O1 g3) h3 s hz hNl hM⟩
                have q : w3.heap[B]? = w1.heap[B]? := by
                  rw [(grownBy_but g3).heap B (by show B < (w1.heap.push _).size; simp; omega) (fun m => by have := vb B m; omega)]
                  exact wheap ((Wider.refl w1).alloc _) l1
                rw [cell_heap (a := ⟨B, 1, none⟩) q]; exact f1
              clear hown O1 e3 hM hB vb hw1
              go_region_law (first
                | (refine step_append_own rfl (.tmp 31) (.tmp 34) 52 rfl w.heap.size 5 i0 (.int .u8 0) 1 1 Try.underlying52 hi hz0 hz1 hz2 rfl (by decide) _ _ _ rfl HO.out ⟨w1.heap.size, 0, none⟩ 1 1 [.int .u8 (t : Int)] rfl rfl SIDE.out.1 SIDE.out.2 S3.out S4.out S5.out ?_; intro v3 w3 h3 g3 _; have g1 := (KEY.out w3 v3 h3 g3).1; have hcall := Lib.hid (KEY.out w3 v3 h3 g3).2; clear h3 g3)
                | (go_simp; go_at_call 32; ((with_reducible refine hcall.out.mono ?_); rintro e w4 ⟨v4, rfl, G4, H4⟩)))
              all_goals
                go_wp2
                go_roundw
                case rel => exact ⟨k + 1, by omega, by go_num, ⟨_, M, HM.out, H4⟩, ⟨t, rfl, by rw [TK.out, lastA_snoc]⟩, SN3.out, G4⟩
                case measure => simp [intOf]; omega
    · obtain rfl : k = n := by omega
      have e := HL.out
      have e0 := HOK.out
      rw [List.take_of_length_le (by have := HN.out; omega)] at e e0
      have e1 : r = 0 := by rw [← HR.out, e0]
      have e2 : T = mkB L := by rw [← HT.out, encA_good e0, e]
      subst e1 e2
      have hcv := own_text hown
      clear e e0 hown
      go_wp2
      go_ret2
      exact ⟨rfl, hg⟩
end Go.Proofs.Ytemfionibnlniaa
