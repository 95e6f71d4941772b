/- The law HashByte: of two texts that differ in one byte the hashes are unlike. No condition. -/
import Derived.Test.YtkffoamdlgfcgaaHAwake
import Derived.Test.YtkffoamdlgfcgaaSOpen
import Derived.Test.YtkffoamdlgfcgaaHOpen
import Derived.Test.YtkffoamdlgfcgaaSMake
import Derived.Lib.Hide
import Derived.BigQuiet
import Derived.RegionTactic
import Derived.BigRegion
import Derived.Deep.DeepCutAuto
import Derived.WalkLawsBesides
import Derived.WalkSpells
namespace Go.Proofs.Ytkffoamdlgfcgaa
set_option linter.unusedVariables false
open Go.ChangeShapes Go.WideShapes Go.ChangeAt Go.RowKit Go.Joins
open Go.ChangeMaps (open_string shut_string)

theorem xor_u8 (a b : Nat) (ha : a < 256) (hb : b < 256) : bits .xor .u8 (a : Int) (b : Int) = ((a ^^^ b : Nat) : Int) := by
  have hx : a ^^^ b < 2 ^ 8 := Nat.xor_lt_two_pow (by omega) (by omega)
  have h1 : (BitVec.ofInt 8 (a : Int)).toNat = a := by
    rw [BitVec.ofInt_natCast, BitVec.toNat_ofNat]; exact Nat.mod_eq_of_lt (by omega)
  have h2 : (BitVec.ofInt 8 (b : Int)).toNat = b := by
    rw [BitVec.ofInt_natCast, BitVec.toNat_ofNat]; exact Nat.mod_eq_of_lt (by omega)
  show IntKind.u8.wrap ((BitVec.ofInt 8 (a : Int) ^^^ BitVec.ofInt 8 (b : Int)).toNat : Int) = _
  rw [BitVec.toNat_xor, h1, h2, IntKind.wrap_u8]
  omega
theorem place_in (n : Nat) (k : Int) (hn : n < 1152921504606846976) (h0 : 0 < n) : ∃ P : Nat, wrap64 ((IntKind.u64.wrap k).tmod (n : Int)) = (P : Int) ∧ P < n := by
  have u0 : 0 ≤ IntKind.u64.wrap k := by rw [IntKind.wrap_u64]; omega
  rw [Int.tmod_eq_emod_of_nonneg u0]
  have v0 := Int.emod_nonneg (IntKind.u64.wrap k) (show (n : Int) ≠ 0 by omega)
  have v1 := Int.emod_lt_of_pos (IntKind.u64.wrap k) (show (0 : Int) < (n : Int) by omega)
  generalize IntKind.u64.wrap k % (n : Int) = V at *
  have e1 : wrap64 V = V := by unfold wrap64; omega
  rw [e1]
  exact ⟨V.toNat, by omega, by omega⟩
/-- A text's byte at a place; and with another one at P. -/
def hbv (s : ByteArray) (j : Nat) : Int := ((s.data.toList.getD j 0).toNat : Int)
def hpv (s : ByteArray) (P : Nat) (y : UInt8) (j : Nat) : Int := if j = P then (y.toNat : Int) else hbv s j
theorem put_data (s : ByteArray) (P : Nat) (y : UInt8) : (strOfNums ((List.range s.size).map (hpv s P y))).data.toList = s.data.toList.set P y := by
  rw [strOfNums_data, List.map_map]
  apply List.ext_getElem
  · rw [List.length_map, List.length_range, List.length_set]; simp
  · intro i h1 h2
    rw [List.getElem_map, List.getElem_range, List.getElem_set]
    simp only [Function.comp, hpv, hbv]
    by_cases e : i = P
    · rw [if_pos e, if_pos e.symm, Int.toNat_natCast]; simp
    · rw [if_neg e, if_neg (fun h => e h.symm), Int.toNat_natCast]
      have hi : i < s.data.toList.length := by simpa using h1
      rw [List.getD_eq_getElem?_getD, List.getElem?_eq_getElem hi]
      simp
theorem byte_else (s : ByteArray) (P : Nat) (hP : P < s.size) (y : UInt8) (hy : y ≠ s.data.toList.getD P 0) : moreH 2166136261#32 (s.data.toList.set P y) ≠ moreH 2166136261#32 s.data.toList := by
  have hp : P < s.data.toList.length := by simpa using hP
  have e1 : s.data.toList.set P y = s.data.toList.take P ++ [y] ++ s.data.toList.drop (P + 1) := by
    rw [List.set_eq_take_append_cons_drop, if_pos hp]; simp
  have e2 : s.data.toList = s.data.toList.take P ++ [s.data.toList.getD P 0] ++ s.data.toList.drop (P + 1) := by
    rw [List.getD_eq_getElem?_getD, List.getElem?_eq_getElem hp, Option.getD_some, List.append_assoc, List.singleton_append, ← List.drop_eq_getElem_cons hp, List.take_append_drop]
  have h := moreH_byte 2166136261#32 (s.data.toList.take P) (s.data.toList.drop (P + 1)) hy
  rw [← e1, ← e2] at h
  exact h
theorem textsH_one (s : ByteArray) : textsH [s] = moreH 2166136261#32 s.data.toList := by unfold textsH; rw [joinL_one]
theorem hpdA' {V W : World} {o : Obj} (h : Hid (Wider V W)) : Hid (Wider V (W.alloc o).drew) := h.out.alloc o

set_option maxRecDepth 100000 in
set_option maxHeartbeats 16000000 in
theorem hashByte_ok (s : ByteArray) (n1 n2 : Int) (h0 : s.size ≤ 5000) (sz : 0 < s.size) (n2l : 0 ≤ n2) (n2h : n2 < 256) (h2 : n2 ≠ 0) (c0 : decide ((5000 : Int) < (s.size : Int)) = false) (c1 : decide (5000 < s.size) = false)
    (d2 : s.toList.isEmpty = false) (d3 : ¬ s.toList = []) (e0 : (n2 == 0) = false) (e1 : decide (n2 = 0) = false) (h1 : s ≠ ⟨#[]⟩) (w : World) :
    Calls Try.prog 9 #[.string s, .int .i64 n1, .int .u8 n2] w fun e w' => e = .returned (.bool true) ∧ Wider w w' := by
  have G : Hid (Wider w w) := Wider.refl w
  obtain ⟨P, hP, hPl⟩ := place_in s.size n1 (by omega) sz
  have p0 : (0 : Int) ≤ (P : Int) := by omega
  have p1 : (P : Int) < (s.size : Int) := by omega
  obtain ⟨c, rfl⟩ : ∃ c : Nat, n2 = (c : Int) := ⟨n2.toNat, by omega⟩
  obtain ⟨x, hx⟩ : ∃ x : UInt8, s.data.toList.getD P 0 = x := ⟨_, rfl⟩
  have lx := UInt8.toNat_lt x
  obtain ⟨y, hy⟩ : ∃ y : UInt8, x ^^^ UInt8.ofNat c = y := ⟨_, rfl⟩
  have hc : (UInt8.ofNat c).toNat = c := by rw [UInt8.toNat_ofNat']; omega
  have hxy : bits .xor .u8 (x.toNat : Int) (c : Int) = (y.toNat : Int) := by
    rw [xor_u8 _ _ lx (by omega), ← hy, UInt8.toNat_xor, hc]
  have hyx : y ≠ s.data.toList.getD P 0 := by
    rw [hx, ← hy]
    intro e
    have e2 := congrArg (x ^^^ ·) e
    simp only [← UInt8.xor_assoc, UInt8.xor_self, UInt8.zero_xor] at e2
    rw [e2] at hc
    exact h2 (by rw [← hc]; rfl)
  obtain ⟨T, hT⟩ : ∃ T, strOfNums ((List.range s.size).map (hpv s P y)) = T := ⟨_, rfl⟩
  have hTd : T.data.toList = s.data.toList.set P y := by rw [← hT]; exact put_data s P y
  have hTs : T.size = s.size := by rw [← hT, strOfNums_size, List.length_map, List.length_range]
  obtain ⟨r, hr⟩ : ∃ r, (moreH 2166136261#32 T.data.toList).toNat = r := ⟨_, rfl⟩
  obtain ⟨q, hq⟩ : ∃ q, (moreH 2166136261#32 s.data.toList).toNat = q := ⟨_, rfl⟩
  have hne : ¬ r = q := by
    rw [← hr, ← hq, hTd]
    intro e
    exact byte_else s P hPl y hyx (BitVec.eq_of_toNat_eq e)
  have n0 : ((r : Int) == (q : Int)) = false := by simp; omega
  have nb : ((r : Int) != (q : Int)) = true := by rw [bne, n0]; rfl
  have n1' : decide ((r : Int) = (q : Int)) = false := decide_eq_false (by omega)
  have z1 := fun W : World => hof_l [T] 1 #[.string T] (r := r) rfl rfl (by decide) (by rw [joinL_one]; omega) (by rw [textsH_one]; exact hr) W
  have z2 := fun W : World => hof_l [s] 1 #[.string s] (r := q) rfl rfl (by decide) (by rw [joinL_one]; omega) (by rw [textsH_one]; exact hq) W
  have HT := Lib.hid hT
  have HX := Lib.hid hx
  clear hTd hTs hr hq hT hx hy hc hyx hne
  go_enter Try.func9, Try.ntmps9
  go_upto_region 3 with (first
    | (go_at_call 11; ((with_reducible refine (awake4_c _).mono ?_); rintro e wa ⟨rfl, g⟩; replace G := htrans G g; clear g)))
  have HW9 := G
  have hcv := run_bytes_of_string (P := Try.prog) wa 9 38 5 s Try.underlying9 Try.underlying38 Try.underlying5
  obtain ⟨cap, hcap⟩ : ∃ c : Nat, grownCap wa s.size 0 5 = c := ⟨_, rfl⟩
  rw [hcap] at hcv
  have hB : Bts (wa.alloc (.cells (bytesRow s cap) 5 ((bytesRow s cap).size, (bytesRow s cap).size + 1))).drew wa.heap.size s.size (hbv s) := (Bts.text wa s cap 5).on (Wider.refl _).drew
  replace G : Hid (Wider w (wa.alloc (.cells (bytesRow s cap) 5 ((bytesRow s cap).size, (bytesRow s cap).size + 1))).drew) := hpdA' G
  obtain ⟨B, hBe⟩ : ∃ B : Nat, wa.heap.size = B := ⟨_, rfl⟩
  have hBw : w.heap.size ≤ B := by
    have g : Wider w wa := HW9.out
    rw [← hBe]; exact g.2
  clear hcap
  go_upto_region 4 with fail
  clear hcv
  rw [hBe] at hB
  try simp only [hBe]
  generalize (wa.alloc (.cells (bytesRow s cap) 5 ((bytesRow s cap).size, (bytesRow s cap).size + 1))).drew = V1 at *
  clear HW9 hBe
  have hc := hB.cell P (by omega)
  have hf := hB.free P (by omega)
  have hv0 : hbv s P = (x.toNat : Int) := by unfold hbv; rw [HX.out]
  rw [hv0] at hc
  go_upto_region 5 with fail
  have hB2 : Bts (V1.setCell ⟨B, P, none⟩ (.int .u8 (y.toNat : Int))) B s.size (hpv s P y) := hB.put (by omega) (fun j _ => rfl)
  have hcv2 := hB2.conv cap HT.out
  replace G : Hid (Wider w (V1.setCell ⟨B, P, none⟩ (.int .u8 (y.toNat : Int)))) := G.out.setCell hBw _
  clear hc hf hB hB2
  generalize V1.setCell ⟨B, P, none⟩ (.int .u8 (y.toNat : Int)) = V2 at *
  go_wp2_with (first
    | (go_at_call 12; ((with_reducible refine (z1 _).mono ?_); rintro e w7 ⟨rfl, g⟩; replace G := htrans G g; clear g))
    | (go_at_call 12; ((with_reducible refine (z2 _).mono ?_); rintro e w8 ⟨rfl, g⟩; replace G := htrans G g; clear g)))
  go_ret
  exact ⟨rfl, G.out⟩

set_option maxHeartbeats 16000000 in
theorem hashByte_walk (s : ByteArray) (hm : s.size ≤ maxLen) (n1 : Int) (n1l : -9223372036854775808 ≤ n1) (n1h : n1 ≤ 9223372036854775807) (n2 : Int) (n2l : 0 ≤ n2) (n2h : n2 < 256) (w : World) :
    Calls Try.prog 9 #[.string s, .int .i64 n1, .int .u8 n2] w fun e w' => e = .returned (.bool true) ∧ Wider w w' := by
  have G : Hid (Wider w w) := Wider.refl w
  unfold maxLen at hm
  by_cases h0 : 5000 < s.size
  · have c0 : decide ((5000 : Int) < (s.size : Int)) = true := decide_eq_true (by omega)
    have c1 : decide (5000 < s.size) = true := decide_eq_true h0
    go_enter Try.func9, Try.ntmps9
    go_wp2_with (first
      | (go_at_call 11; ((with_reducible refine (awake4_c _).mono ?_); rintro e wa ⟨rfl, g⟩; replace G := htrans G g; clear g)))
    go_ret
    exact ⟨rfl, G.out⟩
  · have c0 : decide ((5000 : Int) < (s.size : Int)) = false := decide_eq_false (by omega)
    have c1 : decide (5000 < s.size) = false := decide_eq_false h0
    by_cases h1 : s = ⟨#[]⟩
    · subst h1
      go_enter Try.func9, Try.ntmps9
      go_wp2_with (first
        | (go_at_call 11; ((with_reducible refine (awake4_c _).mono ?_); rintro e wa ⟨rfl, g⟩; replace G := htrans G g; clear g)))
      go_ret
      exact ⟨rfl, G.out⟩
    · have sz : 0 < s.size := by
        rcases Nat.eq_zero_or_pos s.size with h | h
        · exact absurd (by apply ba_ext; exact List.eq_nil_of_length_eq_zero (by simpa using h)) h1
        · exact h
      have d3 : ¬ s.toList = [] := by
        rw [ByteArray.toList_eq]
        intro e
        have h : s.data.toList.length = 0 := by rw [e]; rfl
        have k : s.data.toList.length = s.size := by simp
        omega
      have d2 : s.toList.isEmpty = false := by
        cases h : s.toList with
        | nil => exact absurd h d3
        | cons a l => rfl
      by_cases h2 : n2 = 0
      · subst h2
        go_enter Try.func9, Try.ntmps9
        go_wp2_with (first
          | (go_at_call 11; ((with_reducible refine (awake4_c _).mono ?_); rintro e wa ⟨rfl, g⟩; replace G := htrans G g; clear g)))
        go_ret
        exact ⟨rfl, G.out⟩
      · have e0 : (n2 == 0) = false := by simpa using h2
        have e1 : decide (n2 = 0) = false := decide_eq_false h2
        exact hashByte_ok s n1 n2 (by omega) sz n2l n2h h2 c0 c1 d2 d3 e0 e1 h1 w


set_option maxRecDepth 100000 in
theorem hashByte_lifted (os : Os) (started : os.Started) (H : Type) (enc : TypeId × Value → H) :
    ReturnsInHanded {} Try.checked os 9 .any (Rows.hashByteSpec.pre6 enc Try.prog Try.f9 Rows.hashByteRow.domain false) (Rows.hashByteSpec.post enc Try.prog Try.f9 false true false false) := by
  refine returnsInHanded_of_change (C := Try.checked) own started (by kernel_rfl) Try.func9
    (ChangeSpec.witness6 (enc := enc) (C := Try.checked) false ⟨#[], #[.string ⟨#[]⟩, .int .i64 0, .int .u8 0], []⟩ 8 (by kernel_rfl) (by kernel_rfl) (by kernel_rfl) (by kernel_rfl)) ?_
  intro W base args ds gs before hval0 hW hcnd _
  have hval : ∀ (j : Nat) t v, Try.f9.params[j]? = some t → args[j]? = some v → Value.okWide Try.prog W .any base t v := hval0
  have hW' := hW
  obtain ⟨p, q, hA0, hV, rfl, hfz, hnd⟩ := hW
  have hA : DataW.TrodAll enc Try.prog W 0 (fun _ => true) true Try.f9.params.toList args.toList ds p := hA0
  rw [Try.params9] at hA hval
  obtain ⟨v0, vs0, d0, ds0, p0, q0, hargs, rfl, rfl, h0, r0⟩ := trodAll_cons hA
  obtain ⟨v1, vs1, d1, ds1, p1, q1, rfl, rfl, rfl, h1, r1⟩ := trodAll_cons r0
  obtain ⟨v2, vs2, d2, ds2, p2, q2, rfl, rfl, rfl, h2, r2⟩ := trodAll_cons r1
  obtain ⟨rfl, rfl, rfl⟩ := trodAll_nil r2
  obtain rfl : args = #[v0, v1, v2] := by cases args; simp_all
  obtain ⟨rfl, rfl⟩ := trodVars_none hV
  obtain ⟨s0, rfl, rfl, rfl, w0⟩ := open_string Try.underlying9 (hval 0 9 v0 rfl rfl) h0
  obtain ⟨n1, rfl, rfl, rfl, w1⟩ := open_int Try.underlying3 (hval 1 3 v1 rfl rfl) h1
  obtain ⟨n2, rfl, rfl, rfl, w2⟩ := open_int Try.underlying5 (hval 2 5 v2 rfl rfl) h2
  clear hA0 hval0
  simp only [List.append_nil] at hW'
  refine (hashByte_walk s0 w0 n1 (bounds_i64 w1).1 (bounds_i64 w1).2 n2 (bounds_u8 w2).1 (bounds_u8 w2).2 W).mono fun e W' ⟨he, hg⟩ => ?_
  subst he
  exact ⟨_, rfl, post_of_none hW' (fun _ _ _ => (trodAll_cons_mk (shut_bool Try.underlying4 _) trodAll_mk0)) (fun sp => (trodAll_cons_mk (shut_string Try.underlying9 w0) (trodAll_cons_mk (shut_int Try.underlying3 w1) (trodAll_cons_mk (shut_int Try.underlying5 w2) trodAll_mk0)))) (fun _ => rfl)
    hg.1 (ok_one (by kernel_rfl) rfl (okWide_bool_mk Try.underlying4 _))⟩

theorem hashByte_holds : Rows.HashByteSaid :=
  OpenClaim.holds_of_wide 9 Try.f9 rfl rfl rfl rfl rfl rfl rfl ⟨rfl, rfl, rfl, rfl, rfl⟩ rfl rfl rfl rfl rfl (by kernel_rfl) Try.func9 (by kernel_rfl)
    (of_decide_eq_true (by kernel_rfl)) (by unfold Func.isWrapper; first | (rw [if_pos (by decide +kernel)]; kernel_rfl) | (rw [if_neg (by decide +kernel)]; exact ⟨rfl, rfl⟩))
    (fun os started H enc _ => hashByte_lifted os started H enc)

#print axioms hashByte_holds

end Go.Proofs.Ytkffoamdlgfcgaa
