/- The law FieldOrder: of two texts of one length, to 16 bytes, the numbers of all their bits stand to each other as the texts do; such a number's text is the text. No condition. -/
import Derived.Test.YtmlmamhcglpfeaaFAwake
import Derived.Test.YtmlmamhcglpfeaaFrame
import Derived.Test.YtmlmamhcglpfeaaFAny
import Derived.Lib.Hide
import Derived.Deep.DeepCutAuto
import Derived.WalkLawsBesides
import Derived.WalkSpells
namespace Go.Proofs.Ytmlmamhcglpfeaa
set_option linter.unusedVariables false
open Go.ChangeShapes Go.WideShapes Go.ChangeAt Go.RowKit Go.Joins
open Go.ChangeMaps (open_string shut_string)

theorem partB_fld (s : ByteArray) (j : Nat) : ∀ k, partB (bitS s) j k = fldN s (8 * j) k := by
  intro k
  induction k with
  | zero => rfl
  | succ k ih => show partB (bitS s) j k * 2 + bitS s (8 * j + k) = 2 * fldN s (8 * j) k + bitS s (8 * j + k); rw [ih, Nat.mul_comm]
theorem fldN_byte (s : ByteArray) (j : Nat) : fldN s (8 * j) 8 = byteS s j := by rw [← partB_fld, partB_8, byteB_text]
theorem fldN_num (s : ByteArray) : ∀ j, j ≤ s.size → fldN s 0 (8 * j) = numOf (s.data.toList.take j) := by
  intro j
  induction j with
  | zero => intro _; rfl
  | succ j ih =>
    intro h
    rw [Nat.mul_succ, fldN_split, ih (by omega), Nat.zero_add, fldN_byte, take_snoc s j h, numOf_snoc, byteS_at s j h]
theorem fldN_all (s : ByteArray) (n : Nat) (h : s.size = n) : fldN s 0 (8 * n) = numOf s.data.toList := by
  rw [fldN_num s n (by omega), List.take_of_length_le (by simp [← h])]
theorem fldW_all (s : ByteArray) (n : Nat) (h : s.size = n) : fldW s 0 (8 * n) = wordOf s.data.toList := by
  unfold fldW wordOf; rw [fldN_all s n h]
theorem numOf_zeros2 (l : List UInt8) : ∀ k, numOf (List.replicate k 0 ++ l) = numOf l := by
  intro k
  induction k with
  | zero => rfl
  | succ k ih => rw [List.replicate_succ, List.cons_append, numOf_cons, ih]; simp
theorem text_fld (s : ByteArray) (n : Nat) (h : s.size = n) (hn : n ≤ 16) : textF (fldW s 0 (8 * n)) (8 * n) = s := by
  have hl : s.data.toList.length = n := by simpa using h
  have e1 : (textW (fldW s 0 (8 * n))).data.toList = List.replicate (16 - n) 0 ++ s.data.toList := by
    rw [← ByteArray.toList_eq]
    apply numOf_inj
    · rw [textW_length]; simp only [List.length_append, List.length_replicate, hl]; omega
    · rw [numOf_text, fldW_toNat _ _ _ (by omega), fldN_all s n h, numOf_zeros2]
  have e2 : (textF (fldW s 0 (8 * n)) (8 * n)).data.toList = s.data.toList := by
    unfold textF
    rw [fldW_cut _ _ _ (by omega), Lib.extract_data, e1, show (8 * n + 7) / 8 = n by omega]
    rw [List.drop_left' (by simp), List.take_of_length_le (by omega)]
  have f := Array.toList_inj.1 e2
  cases s; cases hh : textF _ _; rw [hh] at f; simpa using f
theorem order_facts (s t : ByteArray) (n : Nat) (hs : s.size = n) (ht : t.size = n) (hn : n ≤ 16) {p q p2 q2 c : Int} (hp : IsW p q (fldW s 0 (8 * n))) (hp2 : IsW p2 q2 (fldW t 0 (8 * n))) (hc : cmpW (fldW s 0 (8 * n)) (fldW t 0 (8 * n)) = c) :
    (decide (c < 0) = Op.bytesLess s.toList t.toList) ∧ ((s.toList == t.toList) = ((p == p2) && (q == q2))) := by
  have hl : s.data.toList.length = t.data.toList.length := by simp [hs, ht]
  constructor
  · rw [ByteArray.toList_eq, ByteArray.toList_eq, bytesLess_num _ _ hl, ← hc]
    rw [Bool.eq_iff_iff, decide_eq_true_eq, decide_eq_true_eq, cmpW_neg_iff, fldW_toNat _ _ _ (by omega), fldW_toNat _ _ _ (by omega), fldN_all s n hs, fldN_all t n ht]
  · rw [← isW_beq hp hp2, Bool.eq_iff_iff, beq_iff_eq, decide_eq_true_eq, ByteArray.toList_eq, ByteArray.toList_eq]
    constructor
    · intro e; rw [fldW_all s n hs, fldW_all t n ht, e]
    · intro e
      have e3 := congrArg BitVec.toNat e
      rw [fldW_toNat _ _ _ (by omega), fldW_toNat _ _ _ (by omega), fldN_all s n hs, fldN_all t n ht] at e3
      exact numOf_inj _ _ hl e3
theorem compare_f (x y : BitVec 128) {ah al bh bl r : Int} (hx : IsW ah al x) (hy : IsW bh bl y) (hr : cmpW x y = r) (w : World) :
    Calls Try.prog 25 #[.agg #[.int .u64 ah, .int .u64 al], .agg #[.int .u64 bh, .int .u64 bl]] w fun e w' => e = .returned (.int .i64 r) ∧ Grown w w' := by
  rw [← hr]; exact compare_c x y hx hy w

set_option maxHeartbeats 8000000 in
theorem fieldOrder_walk (s : ByteArray) (hm : s.size ≤ maxLen) (t : ByteArray) (hm2 : t.size ≤ maxLen) (w : World) :
    Calls Try.prog 10 #[.string s, .string t] w fun e w' => e = .returned (.bool true) ∧ Wider w w' := by
  unfold maxLen at hm hm2
  have G : Hid (Wider w w) := Wider.refl w
  obtain ⟨n, hn⟩ : ∃ n : Nat, min (min s.size t.size) 16 = n := ⟨_, rfl⟩
  have hn1 : ∀ (i1 i2 : Decidable (t.size < s.size)) (i3 : Decidable ((16 : Int) < @ite Int (t.size < s.size) i1 (t.size : Int) (s.size : Int))), @ite Int ((16 : Int) < @ite Int (t.size < s.size) i1 (t.size : Int) (s.size : Int)) i3 (16 : Int) (@ite Int (t.size < s.size) i2 (t.size : Int) (s.size : Int)) = (n : Int) := by
    intro i1 i2 i3; split <;> split <;> (try split at *) <;> omega
  have hn2 : n ≤ 16 := by omega
  have hn3 : n ≤ s.size := by omega
  have hn4 : n ≤ t.size := by omega
  have i0 : (0 : Int) ≤ (n : Int) := by omega
  have i1 : (n : Int) ≤ (s.size : Int) := by omega
  have i2 : (n : Int) ≤ (t.size : Int) := by omega
  have hS1 : (s.extract 0 n).size = n := by simp; omega
  have hT1 : (t.extract 0 n).size = n := by simp; omega
  go_enter Try.func10, Try.ntmps10
  go_upto_region 2 with fail
  go_quiet (fail)
  try simp only [hn1, Int.toNat_natCast]
  clear hn1
  replace G : Hid (Wider w (w.drewN nq)) := G.out.drewN nq
  generalize w.drewN nq = V at *
  generalize hS : s.extract 0 n = S at *
  generalize hT : t.extract 0 n = T at *
  clear hS hT
  by_cases c0 : n = 0
  · subst c0
    go_wp2_with (go_at_call 26; ((with_reducible refine (awake2_c _).mono ?_); rintro e wa ⟨rfl, g⟩; (with_reducible first | (replace G := htrans G g) | (replace G := htransA G g) | (replace G := htransAA G g)); clear g))
    go_ret
    exact ⟨rfl, G.out⟩
  · have c1 : ((n : Int) == 0) = false := by simpa using c0
    obtain ⟨p, q, hp⟩ := isW_ex (fldW S 0 (8 * n))
    obtain ⟨p2, q2, hp2⟩ := isW_ex (fldW T 0 (8 * n))
    obtain ⟨c, hc⟩ : ∃ c : Int, cmpW (fldW S 0 (8 * n)) (fldW T 0 (8 * n)) = c := ⟨_, rfl⟩
    obtain ⟨F1, F2⟩ := order_facts S T n hS1 hT1 hn2 hp hp2 hc
    have tx : ∀ W : World, Calls Try.prog 31 #[.agg #[.int .u64 p, .int .u64 q], .int .i64 (8 * (n : Int))] W fun e w' => e = .returned (.tuple #[.string S, .int .i64 0]) ∧ Grown W w' := ftext_c (fldW S 0 (8 * n)) (8 * n) hp (by omega) (by omega) (text_fld S n hS1 hn2)
    have HC := Lib.hid hc
    clear hc
    go_upto_region 8 with (first
      | (go_at_call 26; ((with_reducible refine (awake2_c _).mono ?_); rintro e wa ⟨rfl, g⟩; (with_reducible first | (replace G := htrans G g) | (replace G := htransA G g) | (replace G := htransAA G g)); clear g))
      | (go_at_call 27; ((with_reducible refine (get_i S _ _ 0 (8 * n) (by omega) (by omega) (by omega) (by omega) (by omega) (by omega) hp _).mono ?_); rintro e w5 ⟨rfl, g⟩; replace G := hgrown G g; clear g; obtain ⟨k0, k1, _, _⟩ := new2 w5 (.int .u64 p) (.int .u64 q) 24; replace G := halloc2 G (.cells #[.int .u64 p, .int .u64 q] 24)))
      | (go_at_call 27; ((with_reducible refine (get_i T _ _ 0 (8 * n) (by omega) (by omega) (by omega) (by omega) (by omega) (by omega) hp2 _).mono ?_); rintro e w6 ⟨rfl, g⟩; replace G := hgrown G g; replace k0 := gkeep g k0; replace k1 := gkeep g k1; clear g; obtain ⟨k2, k3, _, _⟩ := new2 w6 (.int .u64 p2) (.int .u64 q2) 24; replace k0 := kalloc (o := .cells #[.int .u64 p2, .int .u64 q2] 24) k0; replace k1 := kalloc (o := .cells #[.int .u64 p2, .int .u64 q2] 24) k1; replace G := halloc2 G (.cells #[.int .u64 p2, .int .u64 q2] 24)))
      | (go_at_call 31; ((with_reducible refine (tx _).mono ?_); rintro e w7 ⟨rfl, g⟩; replace k0 := gkeep g k0; replace k1 := gkeep g k1; replace k2 := gkeep g k2; replace k3 := gkeep g k3; replace G := hgrown G g; clear g)))
    have F3 : ((decide (c < 0) = true ∧ Op.bytesLess S.toList T.toList = true) ∨ (decide (c < 0) = false ∧ Op.bytesLess S.toList T.toList = false)) := by
      rw [← F1]; cases decide (c < 0) <;> simp
    have F4 : ((p == p2) = false ∧ (S.toList == T.toList) = false) ∨ ((p == p2) = true ∧ (q == q2) = false ∧ (S.toList == T.toList) = false) ∨ ((p == p2) = true ∧ (q == q2) = true ∧ (S.toList == T.toList) = true) := by
      rw [F2]; cases (p == p2) <;> cases (q == q2) <;> simp
    clear F1 F2
    rcases F3 with ⟨f1, f2⟩ | ⟨f1, f2⟩ <;> rcases F4 with ⟨f3, f5⟩ | ⟨f3, f4, f5⟩ | ⟨f3, f4, f5⟩
    all_goals
      go_wp2_with (first
        | (go_at_call 26; ((with_reducible refine (awake2_c _).mono ?_); rintro e wa ⟨rfl, g⟩; (with_reducible first | (replace G := htrans G g) | (replace G := htransA G g) | (replace G := htransAA G g)); clear g))
        | (go_at_call 25; ((with_reducible refine (compare_f (fldW S 0 (8 * n)) (fldW T 0 (8 * n)) hp hp2 HC.out _).mono ?_); rintro e w8 ⟨rfl, g⟩; replace k0 := gkeep g k0; replace k1 := gkeep g k1; replace k2 := gkeep g k2; replace k3 := gkeep g k3; replace G := hgrown G g; clear g)))
      go_ret
      exact ⟨rfl, G.out⟩

set_option maxRecDepth 100000 in
theorem fieldOrder_lifted (os : Os) (started : os.Started) (H : Type) (enc : TypeId × Value → H) :
    ReturnsInHanded {} Try.checked os 10 .any (Rows.fieldOrderSpec.pre6 enc Try.prog Try.f10 Rows.fieldOrderRow.domain false) (Rows.fieldOrderSpec.post enc Try.prog Try.f10 false true false false) := by
  refine returnsInHanded_of_change (C := Try.checked) own started (by kernel_rfl) Try.func10
    (ChangeSpec.witness6 (enc := enc) (C := Try.checked) false ⟨#[], #[.string ⟨#[]⟩, .string ⟨#[]⟩], []⟩ 8 (by kernel_rfl) (by kernel_rfl) (by kernel_rfl) (by kernel_rfl)) ?_
  intro W base args ds gs before hval0 hW hcnd _
  have hval : ∀ (j : Nat) t v, Try.f10.params[j]? = some t → args[j]? = some v → Value.okWide Try.prog W .any base t v := hval0
  have hW' := hW
  obtain ⟨p, q, hA0, hV, rfl, hfz, hnd⟩ := hW
  have hA : DataW.TrodAll enc Try.prog W 0 (fun _ => true) true Try.f10.params.toList args.toList ds p := hA0
  rw [Try.params10] at hA hval
  obtain ⟨v0, vs0, d0, ds0, p0, q0, hargs, rfl, rfl, h0, r0⟩ := trodAll_cons hA
  obtain ⟨v1, vs1, d1, ds1, p1, q1, rfl, rfl, rfl, h1, r1⟩ := trodAll_cons r0
  obtain ⟨rfl, rfl, rfl⟩ := trodAll_nil r1
  obtain rfl : args = #[v0, v1] := by cases args; simp_all
  obtain ⟨rfl, rfl⟩ := trodVars_none hV
  obtain ⟨s0, rfl, rfl, rfl, w0⟩ := open_string Try.underlying9 (hval 0 9 v0 rfl rfl) h0
  obtain ⟨s1, rfl, rfl, rfl, w1⟩ := open_string Try.underlying9 (hval 1 9 v1 rfl rfl) h1
  clear hA0 hval0
  simp only [List.append_nil] at hW'
  refine (fieldOrder_walk s0 w0 s1 w1 W).mono fun e W' ⟨he, hg⟩ => ?_
  subst he
  exact ⟨_, rfl, post_of_none hW' (fun _ _ _ => (trodAll_cons_mk (shut_bool Try.underlying4 _) trodAll_mk0)) (fun sp => (trodAll_cons_mk (shut_string Try.underlying9 w0) (trodAll_cons_mk (shut_string Try.underlying9 w1) trodAll_mk0))) (fun _ => rfl)
    hg.1 (ok_one (by kernel_rfl) rfl (okWide_bool_mk Try.underlying4 _))⟩

theorem fieldOrder_holds : Rows.FieldOrderSaid :=
  OpenClaim.holds_of_wide 10 Try.f10 rfl rfl rfl rfl rfl rfl rfl ⟨rfl, rfl, rfl, rfl, rfl⟩ rfl rfl rfl rfl rfl (by kernel_rfl) Try.func10 (by kernel_rfl)
    (of_decide_eq_true (by kernel_rfl)) (by unfold Func.isWrapper; first | (rw [if_pos (by decide +kernel)]; kernel_rfl) | (rw [if_neg (by decide +kernel)]; exact ⟨rfl, rfl⟩))
    (fun os started H enc _ => fieldOrder_lifted os started H enc)

#print axioms fieldOrder_holds

end Go.Proofs.Ytmlmamhcglpfeaa
