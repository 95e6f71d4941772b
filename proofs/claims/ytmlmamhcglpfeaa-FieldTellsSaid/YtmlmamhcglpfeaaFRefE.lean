/- What the document's answer Text of layer 2 does. -/
import Derived.Test.YtmlmamhcglpfeaaFRefD
namespace Go.Proofs.Ytmlmamhcglpfeaa
set_option linter.unusedVariables false
open Go.RowKit

/-- The bits of the text of n bits of x in m bytes. -/
def txtB (x : BitVec 128) (n m p : Nat) : Nat := if 8 * m - 1 - p < n then fbit x (8 * m - 1 - p) else 0
theorem txtB_le (x : BitVec 128) (n m p : Nat) : txtB x n m p ≤ 1 := by
  unfold txtB; split
  · exact fbit_le _ _
  · omega
theorem txtB_text (x : BitVec 128) (n : Nat) (h1 : 1 ≤ n) (h2 : n ≤ 128) : textB (txtB x n ((n + 7) / 8)) ((n + 7) / 8) = textF x n := by
  obtain ⟨m, hm⟩ : ∃ m, (n + 7) / 8 = m := ⟨_, rfl⟩
  rw [hm]
  have hm1 : 1 ≤ m := by omega
  have hm2 : m ≤ 16 := by omega
  have e : (textB (txtB x n m) m).data.toList = (textF x n).data.toList := by
    unfold textF textB
    rw [strOfNums_data, Lib.extract_data, textW_data, hm, List.map_map]
    apply List.ext_getElem
    · simp; omega
    · intro i g1 g2
      have hi : i < m := by simpa using g1
      rw [List.getElem_map, List.getElem_range, List.getElem_take, List.getElem_drop, List.getElem_map, List.getElem_range]
      apply UInt8.toNat_inj.1
      simp only [Function.comp]
      rw [tb_toNat, UInt8.toNat_ofNat', Int.toNat_natCast]
      have l := byteB_lt (txtB x n m) i (txtB_le x n m)
      rw [Nat.mod_eq_of_lt l]
      refine byte_ext l (by omega) (fun r hr => ?_)
      rw [byteB_bit _ _ _ (txtB_le x n m) hr]
      have q1 : 8 * m - 1 - (8 * i + r) = 8 * (15 - (16 - m + i)) + (7 - r) := by omega
      unfold txtB
      rw [q1]
      generalize hK : 8 * (15 - (16 - m + i)) = K
      have d : (x &&& mask n).toNat / 2 ^ K % 256 / 2 ^ (7 - r) % 2 = fbit (x &&& mask n) (K + (7 - r)) := by
        unfold fbit
        rw [Nat.pow_add, ← Nat.div_div_eq_div_mul]
        generalize (x &&& mask n).toNat / 2 ^ K = Y
        match r, hr with
        | 0, _ => omega
        | 1, _ => omega
        | 2, _ => omega
        | 3, _ => omega
        | 4, _ => omega
        | 5, _ => omega
        | 6, _ => omega
        | 7, _ => omega
      rw [d]
      have lt : K + (7 - r) < 128 := by omega
      rw [fbit_if, fbit_if, cut_bit _ _ _ lt]
      by_cases c : K + (7 - r) < n
      · simp [c]
      · simp [c]
  have d := Array.toList_inj.1 e
  cases h1 : textB (txtB x n m) m; cases h2 : textF x n
  rw [h1, h2] at d
  simpa using d

theorem rtext_bad (x : BitVec 128) (n : Int) {ah al : Int} (n0 : -9223372036854775808 ≤ n) (n1 : n ≤ 9223372036854775807) (h : n < 1 ∨ 128 < n) (w : World) :
    Calls Try.prog 32 #[.agg #[.int .u64 ah, .int .u64 al], .int .i64 n] w fun e w' => e = .returned (.tuple #[.string ⟨#[]⟩, .int .i64 1]) ∧ Grown w w' := by
  have hB : bytesF n = 0 := by unfold bytesF; rw [if_neg (by omega)]
  have zb := rbytes_c n n0 n1 hB
  clear hB
  go_enter Try.func32, Try.ntmps32
  go_wp2_with (go_at_call 36; ((with_reducible refine (zb _).mono ?_); rintro e w2 ⟨rfl, rfl⟩))
  simp [bodyPost, results, Try.results32, go_sem]
  exact (Grown.refl _).alloc _ _

set_option maxRecDepth 100000 in
set_option maxHeartbeats 4000000 in
theorem rtext_c (x : BitVec 128) (n : Nat) {ah al : Int} {T : ByteArray} (hx : IsW ah al x) (h1 : 1 ≤ n) (h2 : n ≤ 128) (hT : textF x n = T) (w : World) :
    Calls Try.prog 32 #[.agg #[.int .u64 ah, .int .u64 al], .int .i64 (n : Int)] w fun e w' => e = .returned (.tuple #[.string T, .int .i64 0]) ∧ Grown w w' := by
  obtain ⟨m, hm⟩ : ∃ m, (n + 7) / 8 = m := ⟨_, rfl⟩
  have hB : bytesF (n : Int) = (m : Int) := by unfold bytesF; rw [if_pos (by omega)]; omega
  have zb := rbytes_c (n : Int) (by omega) (by omega) hB
  have hm1 : 1 ≤ m := by omega
  have hm2 : m ≤ 16 := by omega
  have hfin : textB (txtB x n m) m = T := by rw [← hT, ← hm]; exact txtB_text x n h1 h2
  have HT := Lib.hid hfin
  have Z0 : (w.alloc (.cells #[.int .u64 ah, .int .u64 al] 24)).cell? ⟨w.heap.size, 0, none⟩ = some (.int .u64 ah) := by simp [go_sem]
  have Z1 : (w.alloc (.cells #[.int .u64 ah, .int .u64 al] 24)).cell? ⟨w.heap.size, 1, none⟩ = some (.int .u64 al) := by simp [go_sem]
  have G : Hid (Grown w (w.alloc (.cells #[.int .u64 ah, .int .u64 al] 24))) := (Grown.refl _).alloc _ _
  have HM := Lib.hid hm
  clear hB hT hm hfin
  have c0 : ((m : Int) == 0) = false := by simp; omega
  go_enter Try.func32, Try.ntmps32
  go_wp2_with (go_at_call 36; ((with_reducible refine (zb _).mono ?_); rintro e w2 ⟨rfl, rfl⟩))
  clear c0
  generalize (w.alloc (.cells #[.int .u64 ah, .int .u64 al] 24)) = W at *
  go_loopw [6, 7] (fun o i wr => ∃ c : Nat, c ≤ m ∧ (∃ S : ByteArray, o = .string S ∧ textB (txtB x n m) c = S) ∧ (∃ I : Int, i = .int .i64 I ∧ I = (m : Int) - 1 - (c : Int)) ∧ wr.cell? ⟨w.heap.size, 0, none⟩ = some (.int .u64 ah) ∧ wr.cell? ⟨w.heap.size, 1, none⟩ = some (.int .u64 al) ∧ Hid (Grown w wr)) (fun _ i _ => (intOf i + 1).toNat)
  case atStart => exact ⟨0, by omega, ⟨_, rfl, rfl⟩, ⟨(m : Int) - 1, rfl, by omega⟩, Z0, Z1, G⟩
  case round =>
    clear Z0 Z1 G
    obtain ⟨c, hc, ⟨S, rfl, hS⟩, ⟨I, rfl, hI⟩, Z0, Z1, G⟩ := hrel
    have HS := Lib.hid hS
    have hSs : S.size = c := by rw [← hS]; exact textB_size _ _
    clear hS
    by_cases hlt : c < m
    · have i0 : (0 : Int) ≤ I := by omega
      have i1 : I ≤ 15 := by omega
      have HI := Lib.hid hI
      clear hI
      go_upto_region 9 with fail
      go_loopw [8, 9] (fun u q wr2 => ∃ j : Nat, j ≤ 8 ∧ (∃ V : Nat, u = .int .u64 (V : Int) ∧ partB (txtB x n m) c j = V) ∧ (∃ P : Int, q = .int .i64 P ∧ P = 8 * I + 7 - (j : Int)) ∧ wr2.cell? ⟨w.heap.size, 0, none⟩ = some (.int .u64 ah) ∧ wr2.cell? ⟨w.heap.size, 1, none⟩ = some (.int .u64 al) ∧ Hid (Grown w wr2)) (fun _ q _ => (intOf q - 8 * I + 1).toNat)
      case atStart => exact ⟨0, by omega, ⟨0, by simp, rfl⟩, ⟨8 * I + 7, rfl, by omega⟩, Z0, Z1, G⟩
      case round =>
        clear Z0 Z1 G
        obtain ⟨j, hj, ⟨V, rfl, hV⟩, ⟨P, rfl, hP⟩, Z0, Z1, G⟩ := hrel
        have hVl : V < 2 ^ j := by rw [← hV]; exact partB_lt _ c (txtB_le x n m) j
        have HV := Lib.hid hV
        clear hV
        by_cases hj8 : j < 8
        · have hV7 : V ≤ 127 := by
            have : 2 ^ j ≤ 2 ^ 7 := Nat.pow_le_pow_right (by decide) (by omega)
            omega
          clear hVl
          have d0 : 8 * I ≤ P := by omega
          have p0 : 0 ≤ P := by omega
          have p1 : P ≤ 127 := by omega
          obtain ⟨p, rfl⟩ := Int.eq_ofNat_of_zero_le p0
          have hp : 8 * m - 1 - (8 * c + j) = p := by have := HI.out; omega
          have hnx : partB (txtB x n m) c (j + 1) = V * 2 + txtB x n m (8 * c + j) := by show partB (txtB x n m) c j * 2 + _ = _; rw [HV.out]
          have hb : txtB x n m (8 * c + j) = if p < n then fbit x p else 0 := by unfold txtB; rw [hp]
          rw [hb] at hnx
          have HP := Lib.hid hP
          clear hb hp hP
          by_cases e : p < n
          · rw [if_pos e] at hnx
            obtain ⟨b, hb⟩ : ∃ b : Nat, fbit x p = b := ⟨_, rfl⟩
            have hb1 : b ≤ 1 := by rw [← hb]; exact fbit_le _ _
            have zo := rof_c x p hx (by omega) hb
            rw [hb] at hnx
            have HN := Lib.hid hnx
            have e' : (p : Int) < (n : Int) := by omega
            clear hnx hb
            go_wp2_with (go_at_call 52; ((with_reducible refine (zo _).mono ?_); rintro e w4 ⟨rfl, g⟩; replace Z0 := gkeep g Z0; replace Z1 := gkeep g Z1; replace G : Hid (Grown w w4) := G.out.trans3 g; clear g))
            go_roundw
            case rel => exact ⟨j + 1, by omega, ⟨V * 2 + b, by simp, HN.out⟩, ⟨(p : Int) - 1, rfl, by have := HP.out; omega⟩, Z0, Z1, G⟩
            case measure => have := HP.out; simp [intOf]; omega
          · rw [if_neg e, Nat.add_zero] at hnx
            have HN := Lib.hid hnx
            have e' : ¬ (p : Int) < (n : Int) := by omega
            clear hnx
            go_wp2
            go_roundw
            case rel => exact ⟨j + 1, by omega, ⟨V * 2, by simp, HN.out⟩, ⟨(p : Int) - 1, rfl, by have := HP.out; omega⟩, Z0, Z1, G⟩
            case measure => have := HP.out; simp [intOf]; omega
        · obtain rfl : j = 8 := by omega
          have hV8 : V ≤ 255 := by
            have : (2 : Nat) ^ 8 = 256 := by decide
            omega
          have hB : byteB (txtB x n m) c = V := by rw [← partB_8]; exact HV.out
          obtain ⟨T1, hT1⟩ : ∃ T1 : ByteArray, strOfNums [(V : Int)] = T1 := ⟨_, rfl⟩
          have hT1s : T1.size = 1 := by rw [← hT1]; exact strOfNums_size _
          have hconv := conv_one wr V hT1
          have happ : S ++ T1 = textB (txtB x n m) (c + 1) := textB_app _ c HS.out (by rw [hB]; exact hT1)
          have d0 : ¬ 8 * I ≤ P := by omega
          have HA := Lib.hid happ
          clear hVl happ hB HV hT1 hP
          go_wp2
          go_roundw
          case rel => exact ⟨c + 1, by omega, ⟨_, rfl, HA.out.symm⟩, ⟨I - 1, rfl, by have := HI.out; omega⟩, kalloc Z0, kalloc Z1, G.out.alloc _ _⟩
          case measure => have := HI.out; simp [intOf]; omega
    · obtain rfl : c = m := by omega
      obtain rfl : I = -1 := by omega
      have e : S = T := HS.out.symm.trans HT.out
      subst e
      clear hSs
      go_wp2
      simp [bodyPost, results, Try.results32, go_sem]
      exact G.out

theorem rtext_g (x : BitVec 128) (n : Int) {ah al r : Int} {T : ByteArray} (n0 : -9223372036854775808 ≤ n) (n1 : n ≤ 9223372036854775807) (hx : IsW ah al x) (hr : TextR x n T r) (w : World) :
    Calls Try.prog 32 #[.agg #[.int .u64 ah, .int .u64 al], .int .i64 n] w fun e w' => e = .returned (.tuple #[.string T, .int .i64 r]) ∧ Grown w w' := by
  obtain ⟨k1, k2⟩ := hr
  by_cases e : 1 ≤ n ∧ n ≤ 128
  · obtain ⟨h1, rfl⟩ := k1 e
    obtain ⟨m, rfl⟩ := Int.eq_ofNat_of_zero_le (show 0 ≤ n by omega)
    exact rtext_c x m hx (by omega) (by omega) h1 w
  · obtain ⟨rfl, rfl⟩ := k2 e
    exact rtext_bad x n n0 n1 (by omega) w

end Go.Proofs.Ytmlmamhcglpfeaa
