/- The law WordBack: Of of Text is the word, and Text of Of ends by the bytes, behind 0s alone. No condition. -/
import Derived.Test.YtjhfkmjaobleiaaFrame
import Derived.Test.YtjhfkmjaobleiaaTexts
import Derived.WalkLawsBesides
import Derived.WalkSpells
import Derived.Lib.Hide
namespace Go.Proofs.Ytjhfkmjaobleiaa
set_option linter.unusedVariables false
open Go.ChangeShapes Go.WideShapes Go.ChangeAt Go.RowKit Go.Joins
open Go.ChangeMaps (open_string shut_string)

theorem ghid {V W w : World} (h : Hid (Grown V W)) (g : Grown W w) : Hid (Grown V w) := h.out.trans3 g
theorem halloc {V W : World} (h : Hid (Grown V W)) (c : Array Value) (t : TypeId) : Hid (Grown V (W.alloc (.cells c t))) := h.out.alloc c t
theorem text_r (x : BitVec 128) {ah al : Int} {s : ByteArray} (hx : IsW ah al x) (hs : textW x = s) (w : World) :
    Calls Try.prog 25 #[.agg #[.int .u64 ah, .int .u64 al]] w fun e w' => e = .returned (.string s) ∧ Grown w w' := by
  rw [← hs]; exact text_c x hx w

theorem numOf_zeros (l : List UInt8) : ∀ k, numOf (List.replicate k 0 ++ l) = numOf l := by
  intro k
  induction k with
  | zero => rfl
  | succ k ih => rw [List.replicate_succ, List.cons_append, numOf_cons, ih]; simp
theorem numOf_small (l : List UInt8) (h : l.length ≤ 16) : numOf l < 340282366920938463463374607431768211456 :=
  Nat.lt_of_lt_of_le (numOf_lt l) (by
    have : (340282366920938463463374607431768211456 : Nat) = 256 ^ 16 := by decide
    rw [this]; exact Nat.pow_le_pow_right (by decide) h)
theorem wordOf_toNat (l : List UInt8) (h : l.length ≤ 16) : (wordOf l).toNat = numOf l := by
  unfold wordOf; rw [BitVec.toNat_ofNat]; exact Nat.mod_eq_of_lt (numOf_small l h)
theorem text_of (l : List UInt8) (h : l.length ≤ 16) : (textW (wordOf l)).data.toList = List.replicate (16 - l.length) 0 ++ l := by
  rw [← ByteArray.toList_eq]
  apply numOf_inj
  · rw [textW_length]; simp; omega
  · rw [numOf_text, wordOf_toNat l h, numOf_zeros]
theorem size_of (l : List UInt8) (h : l.length ≤ 16) : sizeW (wordOf l) ≤ 8 * l.length := by
  rw [sizeW_iff, wordOf_toNat l h]
  have := numOf_lt l
  have e : (2 : Nat) ^ (8 * l.length) = 256 ^ l.length := by rw [Nat.pow_mul]
  rw [e]; exact this

set_option maxHeartbeats 4000000 in
theorem wordBack_long (a0 b0 : Int) (x0 : BitVec 128) (hx0 : IsW a0 b0 x0) (s : ByteArray) (hm : s.size ≤ maxLen) (hsz : 16 < s.size) (w : World) :
    Calls Try.prog 11 #[.agg #[.int .u64 a0, .int .u64 b0], .string s] w fun e w' => e = .returned (.bool true) ∧ Grown w w' := by
  have HM := Lib.hid hm
  unfold maxLen at hm
  obtain ⟨T0, hT0⟩ : ∃ T : ByteArray, textW x0 = T := ⟨_, rfl⟩
  have hT0s : T0.size ≤ 16 := by rw [← hT0, textW_size]; exact Nat.le_refl _
  have hw0 : IsW a0 b0 (wordOf T0.data.toList) := by rw [← hT0, wordOf_text]; exact hx0
  have HT0 := Lib.hid hT0
  clear hT0
  go_enter Try.func11, Try.ntmps11
  have k0 : (w.alloc (.cells #[.int .u64 a0, .int .u64 b0] 24)).cell? ⟨w.heap.size, 0, none⟩ = some (.int .u64 a0) := by simp [go_sem]
  have k1 : (w.alloc (.cells #[.int .u64 a0, .int .u64 b0] 24)).cell? ⟨w.heap.size, 1, none⟩ = some (.int .u64 b0) := by simp [go_sem]
  have G : Hid (Grown w (w.alloc (.cells #[.int .u64 a0, .int .u64 b0] 24))) := (Grown.refl _).alloc _ _
  go_wp2_with (first
    | (go_at_call 25; ((with_reducible refine (text_r x0 hx0 HT0.out _).mono ?_); rintro e w1 ⟨rfl, g⟩; replace k0 := gkeep g k0; replace k1 := gkeep g k1; replace G := ghid G g; clear g))
    | (go_at_call 24; ((with_reducible refine (of_c T0 hT0s hw0 _).mono ?_); rintro e w2 ⟨rfl, g⟩; replace k0 := gkeep g k0; replace k1 := gkeep g k1; obtain ⟨m0, m1, _, _⟩ := new2 w2 (.int .u64 a0) (.int .u64 b0) 24; replace k0 := kalloc (o := .cells #[.int .u64 a0, .int .u64 b0] 24) k0; replace k1 := kalloc (o := .cells #[.int .u64 a0, .int .u64 b0] 24) k1; replace G := halloc (ghid G g) #[.int .u64 a0, .int .u64 b0] 24; clear g))
    | (go_at_call 17; ((with_reducible refine (awake_c _).mono ?_); rintro e w3 ⟨rfl, g⟩; replace k0 := gkeep g k0; replace k1 := gkeep g k1; replace m0 := gkeep g m0; replace m1 := gkeep g m1; replace G := ghid G g; clear g))
    | (go_at_call 24; ((with_reducible refine (of_long s hsz HM.out _).mono ?_); rintro e w4 ⟨rfl, g⟩; obtain ⟨n0, n1, _, _⟩ := new2 w4 (.int .u64 0) (.int .u64 0) 24; replace G := halloc (ghid G g) #[.int .u64 0, .int .u64 0] 24; clear g)))
  go_ret
  exact ⟨rfl, G.out⟩

set_option maxHeartbeats 4000000 in
theorem wordBack_short (a0 b0 : Int) (x0 : BitVec 128) (hx0 : IsW a0 b0 x0) (s : ByteArray) (hm : s.size ≤ maxLen) (hsz : s.size ≤ 16) (w : World) :
    Calls Try.prog 11 #[.agg #[.int .u64 a0, .int .u64 b0], .string s] w fun e w' => e = .returned (.bool true) ∧ Grown w w' := by
  have HM := Lib.hid hm
  unfold maxLen at hm
  obtain ⟨T0, hT0⟩ : ∃ T : ByteArray, textW x0 = T := ⟨_, rfl⟩
  have hT0s : T0.size ≤ 16 := by rw [← hT0, textW_size]; exact Nat.le_refl _
  have hw0 : IsW a0 b0 (wordOf T0.data.toList) := by rw [← hT0, wordOf_text]; exact hx0
  have HT0 := Lib.hid hT0
  clear hT0
  obtain ⟨p, q, hp⟩ := isW_ex (wordOf s.data.toList)
  obtain ⟨T, hT⟩ : ∃ T : ByteArray, textW (wordOf s.data.toList) = T := ⟨_, rfl⟩
  have hTd : T.data.toList = List.replicate (16 - s.size) 0 ++ s.data.toList := by rw [← hT]; exact text_of _ (by simpa using hsz)
  have hTs : T.size = 16 := by rw [← hT, textW_size]
  have hT16 : T.size ≤ 16 := by omega
  have hpT : IsW p q (wordOf T.data.toList) := by rw [← hT, wordOf_text]; exact hp
  have hzero : ∀ k (h : k < T.size), k < 16 - s.size → T[k].toNat = 0 := by
    intro k h hk
    have e : T[k] = T.data.toList[k]'(by simpa using h) := rfl
    rw [e]
    simp only [hTd]
    rw [List.getElem_append_left (by simpa using hk)]
    simp
  obtain ⟨z, hz⟩ : ∃ z : Int, (sizeW (wordOf s.data.toList) : Int) = z := ⟨_, rfl⟩
  have hz8 : z ≤ 8 * (s.size : Int) := by
    have := size_of s.data.toList (by simpa using hsz)
    have e : s.data.toList.length = s.size := by simp
    rw [e] at this; omega
  have hsl : ((T.extract (16 - s.size) 16).toList == s.toList) = true := by
    rw [beq_iff_eq, ByteArray.toList_eq, ByteArray.toList_eq, Lib.extract_data, hTd]
    have e : (List.replicate (16 - s.size) (0 : UInt8) ++ s.data.toList).length = 16 := by simp; omega
    first
      | (rw [List.take_of_length_le (by omega), List.drop_left' (by simp)]; done)
      | (simp; exact List.take_of_length_le (by simp; omega))
  have HT := Lib.hid hT
  have HZ := Lib.hid hz
  have HTd := Lib.hid hTd
  have hZ0 : Hid (∀ k (h : k < T.size), k < 16 - s.size → T[k].toNat = 0) := hzero
  clear hT hz hTd hzero
  go_enter Try.func11, Try.ntmps11
  have k0 : (w.alloc (.cells #[.int .u64 a0, .int .u64 b0] 24)).cell? ⟨w.heap.size, 0, none⟩ = some (.int .u64 a0) := by simp [go_sem]
  have k1 : (w.alloc (.cells #[.int .u64 a0, .int .u64 b0] 24)).cell? ⟨w.heap.size, 1, none⟩ = some (.int .u64 b0) := by simp [go_sem]
  have G : Hid (Grown w (w.alloc (.cells #[.int .u64 a0, .int .u64 b0] 24))) := (Grown.refl _).alloc _ _
  go_wp2_with (first
    | (go_at_call 25; ((with_reducible refine (text_r x0 hx0 HT0.out _).mono ?_); rintro e w1 ⟨rfl, g⟩; replace k0 := gkeep g k0; replace k1 := gkeep g k1; replace G := ghid G g; clear g))
    | (go_at_call 24; ((with_reducible refine (of_c T0 hT0s hw0 _).mono ?_); rintro e w2 ⟨rfl, g⟩; replace k0 := gkeep g k0; replace k1 := gkeep g k1; obtain ⟨m0, m1, _, _⟩ := new2 w2 (.int .u64 a0) (.int .u64 b0) 24; replace k0 := kalloc (o := .cells #[.int .u64 a0, .int .u64 b0] 24) k0; replace k1 := kalloc (o := .cells #[.int .u64 a0, .int .u64 b0] 24) k1; replace G := halloc (ghid G g) #[.int .u64 a0, .int .u64 b0] 24; clear g))
    | (go_at_call 17; ((with_reducible refine (awake_c _).mono ?_); rintro e w3 ⟨rfl, g⟩; replace k0 := gkeep g k0; replace k1 := gkeep g k1; replace m0 := gkeep g m0; replace m1 := gkeep g m1; replace G := ghid G g; clear g))
    | (go_at_call 24; ((with_reducible refine (of_c s hsz hp _).mono ?_); rintro e w4 ⟨rfl, g⟩; obtain ⟨n0, n1, _, _⟩ := new2 w4 (.int .u64 p) (.int .u64 q) 24; replace G := halloc (ghid G g) #[.int .u64 p, .int .u64 q] 24; clear g))
    | (go_at_call 25; ((with_reducible refine (text_r (wordOf s.data.toList) hp HT.out _).mono ?_); rintro e w5 ⟨rfl, g⟩; replace n0 := gkeep g n0; replace n1 := gkeep g n1; replace G := ghid G g; clear g)))
  go_loop [10] (fun i => ∃ k : Nat, k ≤ 16 - s.size ∧ i = .int .i64 k) (fun i => 16 - (intOf i).toNat)
  case atStart => exact ⟨0, by omega, rfl⟩
  case round =>
    obtain ⟨k, hk, rfl⟩ := hrel
    have k16 : (k : Int) ≤ 16 - (s.size : Int) := by omega
    by_cases hlt : k < 16 - s.size
    · have hlt' : (k : Int) < 16 - (s.size : Int) := by omega
      have hkT : k < T.size := by omega
      have hkT' : (k : Int) < (T.size : Int) := by omega
      have e0 : T[k].toNat = 0 := hZ0 k hkT hlt
      go_wp2
      go_round
      case rel => exact ⟨k + 1, by omega, by go_num⟩
      case measure => simp [intOf]; omega
    · obtain rfl : k = 16 - s.size := by omega
      go_wp2_with (first
        | (go_at_call 24; ((with_reducible refine (of_c T hT16 hpT _).mono ?_); rintro e w6 ⟨rfl, g⟩; replace n0 := gkeep g n0; replace n1 := gkeep g n1; obtain ⟨o0, o1, _, _⟩ := new2 w6 (.int .u64 p) (.int .u64 q) 24; replace n0 := kalloc (o := .cells #[.int .u64 p, .int .u64 q] 24) n0; replace n1 := kalloc (o := .cells #[.int .u64 p, .int .u64 q] 24) n1; replace G := halloc (ghid G g) #[.int .u64 p, .int .u64 q] 24; clear g))
        | (go_at_call 21; ((with_reducible refine (size_r (wordOf s.data.toList) hp HZ.out _).mono ?_); rintro e w7 ⟨rfl, g⟩; replace G := ghid G g; clear g)))
      go_ret
      exact ⟨rfl, G.out⟩


theorem wordBack_walk (a0 b0 : Int) (x0 : BitVec 128) (hx0 : IsW a0 b0 x0) (s : ByteArray) (hm : s.size ≤ maxLen) (w : World) :
    Calls Try.prog 11 #[.agg #[.int .u64 a0, .int .u64 b0], .string s] w fun e w' => e = .returned (.bool true) ∧ Grown w w' := by
  rcases Nat.lt_or_ge 16 s.size with h | h
  · exact wordBack_long a0 b0 x0 hx0 s hm h w
  · exact wordBack_short a0 b0 x0 hx0 s hm h w

set_option maxRecDepth 100000 in
theorem wordBack_lifted (os : Os) (started : os.Started) (H : Type) (enc : TypeId × Value → H) :
    ReturnsInHanded {} Try.checked os 11 .any (Rows.wordBackSpec.pre6 enc Try.prog Try.f11 Rows.wordBackRow.domain false) (Rows.wordBackSpec.post enc Try.prog Try.f11 false true false false) := by
  refine returnsInHanded_of_change (C := Try.checked) own started (by kernel_rfl) Try.func11
    (ChangeSpec.witness6 (enc := enc) (C := Try.checked) false ⟨#[], #[.agg #[.int .u64 0, .int .u64 0], .string ⟨#[]⟩], []⟩ 8 (by kernel_rfl) (by kernel_rfl) (by kernel_rfl) (by kernel_rfl)) ?_
  intro W base args ds gs before hval0 hW hcnd _
  have hval : ∀ (j : Nat) t v, Try.f11.params[j]? = some t → args[j]? = some v → Value.okWide Try.prog W .any base t v := hval0
  have hW' := hW
  obtain ⟨p, q, hA0, hV, rfl, hfz, hnd⟩ := hW
  have hA : DataW.TrodAll enc Try.prog W 0 (fun _ => true) true Try.f11.params.toList args.toList ds p := hA0
  rw [Try.params11] at hA hval
  obtain ⟨v0, vs0, d0, ds0, p0, q0, hargs, rfl, rfl, h0, r0⟩ := trodAll_cons hA
  obtain ⟨v1, vs1, d1, ds1, p1, q1, rfl, rfl, rfl, h1, r1⟩ := trodAll_cons r0
  obtain ⟨rfl, rfl, rfl⟩ := trodAll_nil r1
  obtain rfl : args = #[v0, v1] := by cases args; simp_all
  obtain ⟨rfl, rfl⟩ := trodVars_none hV
  obtain ⟨a0, b0, rfl, rfl, rfl, wa0, wb0⟩ := open_word (hval 0 24 v0 rfl rfl) h0
  obtain ⟨x0, hx0⟩ := word_in wa0 wb0
  obtain ⟨s1, rfl, rfl, rfl, w1⟩ := open_string Try.underlying9 (hval 1 9 v1 rfl rfl) h1
  clear hA0 hval0
  simp only [List.append_nil] at hW'
  refine (wordBack_walk a0 b0 x0 hx0 s1 w1 W).mono fun e W' ⟨he, hg⟩ => ?_
  subst he
  exact ⟨_, rfl, post_of_same (pa := []) (pv := []) hW' (fun _ _ _ => (trodAll_cons_mk (shut_bool Try.underlying4 _) trodAll_mk0)) (fun sp _ => (trodAll_cons_mk (shut_word wa0 wb0) (trodAll_cons_mk (shut_string Try.underlying9 w1) trodAll_mk0))) (fun _ _ => rfl) rfl
    (hg.frame _) hg.2.1 (ok_one (by kernel_rfl) rfl (okWide_bool_mk Try.underlying4 _))⟩

theorem wordBack_holds : Rows.WordBackSaid :=
  OpenClaim.holds_of_wide 11 Try.f11 rfl rfl rfl rfl rfl rfl rfl ⟨rfl, rfl, rfl, rfl, rfl⟩ rfl rfl rfl rfl rfl (by kernel_rfl) Try.func11 (by kernel_rfl)
    (of_decide_eq_true (by kernel_rfl)) (by unfold Func.isWrapper; first | (rw [if_pos (by decide +kernel)]; kernel_rfl) | (rw [if_neg (by decide +kernel)]; exact ⟨rfl, rfl⟩))
    (fun os started H enc _ => wordBack_lifted os started H enc)

#print axioms wordBack_holds

end Go.Proofs.Ytjhfkmjaobleiaa
