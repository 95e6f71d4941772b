/- What the document's answer Put of layer 2 does. -/
import Derived.Test.YtlgllgdaodfocaaFRefC
namespace Go.Proofs.Ytlgllgdaodfocaa
set_option linter.unusedVariables false
open Go.RowKit

theorem textB_snoc (f : Nat → Nat) (k : Nat) : (textB f (k + 1)).data.toList = (textB f k).data.toList ++ [UInt8.ofNat (byteB f k)] := by
  unfold textB
  rw [strOfNums_data, strOfNums_data, List.range_succ, List.map_append, List.map_append]
  simp
theorem textB_app (f : Nat → Nat) (k : Nat) {S T : ByteArray} (hS : textB f k = S) (hT : strOfNums [((byteB f k : Nat) : Int)] = T) : S ++ T = textB f (k + 1) := by
  subst hS hT
  have e : (textB f k ++ strOfNums [((byteB f k : Nat) : Int)]).data.toList = (textB f (k + 1)).data.toList := by
    rw [textB_snoc, ByteArray.data_append, Array.toList_append, strOfNums_data]
    simp
  have d := Array.toList_inj.1 e
  cases h1 : (textB f k ++ strOfNums [((byteB f k : Nat) : Int)]); cases h2 : textB f (k + 1)
  rw [h1, h2] at d
  simpa using d
/-- A slice literal of one byte as a text. -/
theorem conv_one (W : World) (V : Nat) {T : ByteArray} (hT : strOfNums [(V : Int)] = T) :
    (convert 23 9 (.slice (some ⟨W.heap.size, 0, none⟩) 1 1)).run Try.prog (W.alloc (.cells #[.int .u8 (V : Int)] 5)) = .ok (.string T) (W.alloc (.cells #[.int .u8 (V : Int)] 5)) := by
  have h := run_convert_bytes_arg (P := Try.prog) (W.alloc (.cells #[.int .u8 (V : Int)] 5)) 23 5 Try.underlying23 Try.underlying5 W.heap.size 0 1 1 [(V : Int)] rfl (fun i hi => by
    obtain rfl : i = 0 := by omega
    rw [World.cell?_alloc_new]; rfl) 9 Try.underlying9
  rw [hT] at h
  exact h

theorem rput_bad (s : ByteArray) (off width : Int) {r ah al : Int} (hs : s.size < 1152921504606846976) (o0 : -9223372036854775808 ≤ off) (o1 : off ≤ 9223372036854775807) (w0 : -9223372036854775808 ≤ width) (w1 : width ≤ 9223372036854775807) (hr : errF s.size off width = r) (hne : (r != 0) = true) (w : World) :
    Calls Try.prog 45 #[.string s, .int .i64 off, .int .i64 width, .agg #[.int .u64 ah, .int .u64 al]] w fun e w' => e = .returned (.tuple #[.string ⟨#[]⟩, .int .i64 r]) ∧ Grown w w' := by
  go_enter Try.func45, Try.ntmps45
  go_wp2_with (go_at_call 44; ((with_reducible refine (may_c s off width hs o0 o1 w0 w1 hr _).mono ?_); rintro e w2 ⟨rfl, rfl⟩))
  simp [bodyPost, results, Try.results45, go_sem]
  exact (Grown.refl _).alloc _ _

set_option maxRecDepth 100000 in
set_option maxHeartbeats 4000000 in
theorem rput_c (s : ByteArray) (off n : Nat) (x : BitVec 128) {ah al : Int} {T : ByteArray} (hs : s.size < 1152921504606846976) (h1 : 1 ≤ n) (h2 : n ≤ 128) (h3 : off + n ≤ 8 * s.size) (hx : IsW ah al x) (hT : putT s off n x = T) (w : World) :
    Calls Try.prog 45 #[.string s, .int .i64 (off : Int), .int .i64 (n : Int), .agg #[.int .u64 ah, .int .u64 al]] w fun e w' => e = .returned (.tuple #[.string T, .int .i64 0]) ∧ Grown w w' := by
  have he := errF_of h1 h2 h3
  have my := may_c s off n hs (by omega) (by omega) (by omega) (by omega) he
  have HT := Lib.hid hT
  have Z0 : (w.alloc (.cells #[.int .u64 ah, .int .u64 al] 32)).cell? ⟨w.heap.size, 0, none⟩ = some (.int .u64 ah) := by simp [go_sem]
  have Z1 : (w.alloc (.cells #[.int .u64 ah, .int .u64 al] 32)).cell? ⟨w.heap.size, 1, none⟩ = some (.int .u64 al) := by simp [go_sem]
  have G : Hid (Grown w (w.alloc (.cells #[.int .u64 ah, .int .u64 al] 32))) := (Grown.refl _).alloc _ _
  obtain ⟨f, hf⟩ : ∃ f : Nat → Nat, putB s off n x n = f := ⟨_, rfl⟩
  have HF := Lib.hid hf
  have f1 : Hid (∀ k, f k ≤ 1) := by rw [← hf]; exact putB_le s off n x n
  clear he hT hf
  go_enter Try.func45, Try.ntmps45
  go_wp2_with (go_at_call 44; ((with_reducible refine (my _).mono ?_); rintro e w2 ⟨rfl, rfl⟩))
  generalize (w.alloc (.cells #[.int .u64 ah, .int .u64 al] 32)) = W at *
  go_loopw [11, 12] (fun o i wr => ∃ k : Nat, k ≤ s.size ∧ (∃ S : ByteArray, o = .string S ∧ textB f k = S) ∧ i = .int .i64 (k : Int) ∧ wr.cell? ⟨w.heap.size, 0, none⟩ = some (.int .u64 ah) ∧ wr.cell? ⟨w.heap.size, 1, none⟩ = some (.int .u64 al) ∧ Hid (Grown w wr)) (fun _ i _ => s.size - (intOf i).toNat)
  case atStart => exact ⟨0, by omega, ⟨_, rfl, rfl⟩, by simp, Z0, Z1, G⟩
  case round =>
    clear Z0 Z1 G
    obtain ⟨k, hk, ⟨S, rfl, hS⟩, rfl, Z0, Z1, G⟩ := hrel
    have HS := Lib.hid hS
    have hSs : S.size = k := by rw [← hS]; exact textB_size _ _
    clear hS
    by_cases hlt : k < s.size
    · have hlt' : (k : Int) < (s.size : Int) := by omega
      go_upto_region 10 with fail
      go_loopw [13, 14] (fun u q wr2 => ∃ j : Nat, j ≤ 8 ∧ (∃ V : Nat, u = .int .u64 (V : Int) ∧ partB f k j = V) ∧ (∃ P : Nat, q = .int .i64 (P : Int) ∧ P = 8 * k + j) ∧ wr2.cell? ⟨w.heap.size, 0, none⟩ = some (.int .u64 ah) ∧ wr2.cell? ⟨w.heap.size, 1, none⟩ = some (.int .u64 al) ∧ Hid (Grown w wr2)) (fun _ q _ => 8 * k + 8 - (intOf q).toNat)
      case atStart => exact ⟨0, by omega, ⟨0, by simp, rfl⟩, ⟨8 * k, by simp, rfl⟩, Z0, Z1, G⟩
      case round =>
        clear Z0 Z1 G
        obtain ⟨j, hj, ⟨V, rfl, hV⟩, ⟨P, rfl, hP⟩, Z0, Z1, G⟩ := hrel
        have hVl : V < 2 ^ j := by rw [← hV]; exact partB_lt f k f1.out j
        have HV := Lib.hid hV
        clear hV
        by_cases hj8 : j < 8
        · have hV7 : V ≤ 127 := by
            have : 2 ^ j ≤ 2 ^ 7 := Nat.pow_le_pow_right (by decide) (by omega)
            omega
          clear hVl
          have c0 : (P : Int) < 8 * (k : Int) + 8 := by omega
          obtain ⟨b, hb⟩ : ∃ b : Nat, f P = b := ⟨_, rfl⟩
          have hb1 : b ≤ 1 := by rw [← hb]; exact f1.out P
          have hnx : partB f k (j + 1) = V * 2 + b := by show partB f k j * 2 + f (8 * k + j) = _; rw [HV.out, ← hP, hb]
          have hput : putB s off n x n P = b := by rw [HF.out]; exact hb
          unfold putB at hput
          have HN := Lib.hid hnx
          have HP := Lib.hid hP
          clear hnx hb hP
          by_cases d1 : off ≤ P
          · have e1 : decide (off ≤ P) = true := decide_eq_true d1
            have e1' : decide ((off : Int) ≤ (P : Int)) = true := decide_eq_true (by omega)
            by_cases d2 : P < off + n
            · have e2 : decide ((P : Int) < (off : Int) + (n : Int)) = true := decide_eq_true (by omega)
              rw [if_pos ⟨d1, d2⟩] at hput
              have zo : ∀ W : World, Calls Try.prog 52 #[.agg #[.int .u64 ah, .int .u64 al], .int .i64 ((off : Int) + (n : Int) - 1 - (P : Int))] W fun e w' => e = .returned (.int .u64 (b : Int)) ∧ Grown W w' := by
                intro W
                have h := rof_c x (off + n - 1 - P) hx (by omega) hput W
                rw [show (((off + n - 1 - P : Nat)) : Int) = (off : Int) + (n : Int) - 1 - (P : Int) by omega] at h
                exact h
              clear hput
              go_wp2_with (go_at_call 52; ((with_reducible refine (zo _).mono ?_); rintro e w4 ⟨rfl, g⟩; replace Z0 := gkeep g Z0; replace Z1 := gkeep g Z1; replace G : Hid (Grown w w4) := G.out.trans3 g; clear g))
              go_roundw
              case rel => exact ⟨j + 1, by omega, ⟨V * 2 + b, by simp, HN.out⟩, ⟨P + 1, by go_num, by have := HP.out; omega⟩, Z0, Z1, G⟩
              case measure => have := HP.out; simp [intOf]; omega
            · have e2 : decide ((P : Int) < (off : Int) + (n : Int)) = false := decide_eq_false (by omega)
              rw [if_neg (by omega)] at hput
              have zb := bit_c s P hs (by omega) hput
              clear hput
              go_wp2_with (go_at_call 51; ((with_reducible refine (zb _).mono ?_); rintro e w4 ⟨rfl, rfl⟩))
              go_roundw
              case rel => exact ⟨j + 1, by omega, ⟨V * 2 + b, by simp, HN.out⟩, ⟨P + 1, by go_num, by have := HP.out; omega⟩, Z0, Z1, G⟩
              case measure => have := HP.out; simp [intOf]; omega
          · have e1 : decide (off ≤ P) = false := decide_eq_false d1
            have e1' : decide ((off : Int) ≤ (P : Int)) = false := decide_eq_false (by omega)
            rw [if_neg (by omega)] at hput
            have zb := bit_c s P hs (by omega) hput
            clear hput
            go_wp2_with (go_at_call 51; ((with_reducible refine (zb _).mono ?_); rintro e w4 ⟨rfl, rfl⟩))
            go_roundw
            case rel => exact ⟨j + 1, by omega, ⟨V * 2 + b, by simp, HN.out⟩, ⟨P + 1, by go_num, by have := HP.out; omega⟩, Z0, Z1, G⟩
            case measure => have := HP.out; simp [intOf]; omega
        · obtain rfl : j = 8 := by omega
          have hV8 : V ≤ 255 := by
            have : (2 : Nat) ^ 8 = 256 := by decide
            omega
          have hB : byteB f k = V := by rw [← partB_8]; exact HV.out
          obtain ⟨T1, hT1⟩ : ∃ T1 : ByteArray, strOfNums [(V : Int)] = T1 := ⟨_, rfl⟩
          have hT1s : T1.size = 1 := by rw [← hT1]; exact strOfNums_size _
          have hconv := conv_one wr V hT1
          have happ : S ++ T1 = textB f (k + 1) := textB_app f k HS.out (by rw [hB]; exact hT1)
          have c0 : ¬ (P : Int) < 8 * (k : Int) + 8 := by omega
          have HA := Lib.hid happ
          have HB := Lib.hid hB
          clear hVl happ hB HV hT1 hP
          go_wp2
          go_roundw
          case rel => exact ⟨k + 1, by omega, ⟨_, rfl, HA.out.symm⟩, by go_num, kalloc Z0, kalloc Z1, G.out.alloc _ _⟩
          case measure => simp [intOf]; omega
    · obtain rfl : k = s.size := by omega
      have e : S = T := by
        have h := HT.out
        unfold putT at h
        rw [HF.out] at h
        rw [← h]; exact HS.out.symm
      subst e
      clear hSs
      go_wp2
      simp [bodyPost, results, Try.results45, go_sem]
      exact G.out

theorem rput_g (s : ByteArray) (off width : Int) (x : BitVec 128) {ah al r : Int} {T : ByteArray} (hs : s.size < 1152921504606846976) (o0 : -9223372036854775808 ≤ off) (o1 : off ≤ 9223372036854775807) (w0 : -9223372036854775808 ≤ width) (w1 : width ≤ 9223372036854775807) (hx : IsW ah al x) (hr : PutR s off width x T r) (w : World) :
    Calls Try.prog 45 #[.string s, .int .i64 off, .int .i64 width, .agg #[.int .u64 ah, .int .u64 al]] w fun e w' => e = .returned (.tuple #[.string T, .int .i64 r]) ∧ Grown w w' := by
  obtain ⟨k1, k2, k3⟩ := hr
  by_cases e : r = 0
  · subst e
    obtain ⟨o, n, rfl, rfl, h1, h2, h3⟩ := errF_ok k1
    exact rput_c s o n x hs h1 h2 h3 hx (k2 rfl) w
  · obtain rfl := k3 e
    exact rput_bad s off width hs o0 o1 w0 w1 k1 (by simpa using e) w

end Go.Proofs.Ytlgllgdaodfocaa
