/- The law SumTurned: with all pairs of bytes turned about the sum is turned about. No condition. -/
import Derived.Test.YtlgahhehagffeaaSAwake
import Derived.Test.YtlgahhehagffeaaSOpen
import Derived.Test.YtlgahhehagffeaaSGlue
import Derived.Test.YtlgahhehagffeaaSMake
import Derived.Lib.Hide
import Derived.BigQuiet
import Derived.RegionTactic
import Derived.BigRegion
import Derived.Deep.RegionHeld3
import Derived.Deep.DeepCutAuto
import Derived.WalkLawsBesides
import Derived.WalkSpells
namespace Go.Proofs.Ytlgahhehagffeaa
set_option linter.unusedVariables false
open Go.ChangeShapes Go.WideShapes Go.ChangeAt Go.RowKit Go.Joins
open Go.ChangeMaps (open_string shut_string)

/-- Pairs turned about. -/
def swapL : List UInt8 → List UInt8
  | a :: b :: l => b :: a :: swapL l
  | l => l
theorem wsum_swap : ∀ l : List UInt8, l.length % 2 = 0 → wsum true (swapL l) = wsum false l
  | [], _ => rfl
  | [a], h => by simp at h
  | a :: b :: l, h => by
    have ih := wsum_swap l (by simp only [List.length_cons] at h; omega)
    show b.toNat * 256 + (a.toNat * 1 + wsum true (swapL l)) = a.toNat * 1 + (b.toNat * 256 + wsum false l)
    rw [ih]; omega
theorem swapL_length : ∀ l : List UInt8, (swapL l).length = l.length
  | [] => rfl
  | [a] => rfl
  | a :: b :: l => by
    show (swapL l).length + 1 + 1 = l.length + 1 + 1
    rw [swapL_length l]
theorem swapL_get : ∀ (l : List UInt8), l.length % 2 = 0 → ∀ j, j < l.length → (swapL l).getD j 0 = l.getD (if j % 2 = 0 then j + 1 else j - 1) 0
  | [], _, j, h => by simp at h
  | [a], h, _, _ => by simp at h
  | a :: b :: l, h, 0, _ => by simp [swapL]
  | a :: b :: l, h, 1, _ => by simp [swapL]
  | a :: b :: l, h, j + 2, hj => by
    have ih := swapL_get l (by simp only [List.length_cons] at h; omega) j (by simp only [List.length_cons] at hj; omega)
    show (swapL l).getD j 0 = _
    rw [ih]
    by_cases e : j % 2 = 0
    · rw [if_pos e, if_pos (by omega)]; rfl
    · rw [if_neg e, if_neg (by omega)]
      obtain ⟨k, rfl⟩ : ∃ k, j = k + 1 := ⟨j - 1, by omega⟩
      rfl
/-- A text's byte at a place, and the other one of its pair. -/
def bv (s : ByteArray) (j : Nat) : Int := ((s.data.toList.getD j 0).toNat : Int)
def sv (s : ByteArray) (j : Nat) : Int := bv s (if j % 2 = 0 then j + 1 else j - 1)
theorem bv_0 (s : ByteArray) (j : Nat) : 0 ≤ bv s j ∧ bv s j ≤ 255 := by
  unfold bv; have := UInt8.toNat_lt (s.data.toList.getD j 0); omega
theorem turned_data (s : ByteArray) (h : s.size % 2 = 0) : (strOfNums ((List.range s.size).map (sv s))).data.toList = swapL s.data.toList := by
  have e : s.data.toList.length = s.size := by simp
  rw [strOfNums_data, List.map_map]
  apply List.ext_getElem
  · rw [List.length_map, List.length_range, swapL_length, e]
  · intro i h1 h2
    have hi : i < s.data.toList.length := by rw [e]; simpa using h1
    rw [List.getElem_map, List.getElem_range]
    have g := swapL_get s.data.toList (by rw [e]; exact h) i hi
    rw [List.getD_eq_getElem?_getD, List.getElem?_eq_getElem h2] at g
    simp only [Function.comp, sv, bv]
    rw [Int.toNat_natCast, ← g]
    simp

set_option maxRecDepth 100000 in
set_option maxHeartbeats 16000000 in
theorem sumTurned_ok (s : ByteArray) (hs : s.size < 39999) (w : World) :
    Calls Try.prog 10 #[.string s] w fun e w' => e = .returned (.bool true) ∧ Wider w w' := by
  have G : Hid (Wider w w) := Wider.refl w
  have zl := long_1 s (by omega) (r := false) (decide_eq_false (by omega))
  obtain ⟨E, hE⟩ : ∃ E, evenS s = E := ⟨_, rfl⟩
  have ze := even_c s (by omega) hE
  have hEs : E.size ≤ 39999 := by rw [← hE, evenS_size]; omega
  have hE2 : E.size % 2 = 0 := by rw [← hE, evenS_size]; omega
  obtain ⟨T, hT⟩ : ∃ T, strOfNums ((List.range E.size).map (sv E)) = T := ⟨_, rfl⟩
  have hTd : T.data.toList = swapL E.data.toList := by rw [← hT]; exact turned_data E hE2
  have hTs : T.size = E.size := by rw [← hT, strOfNums_size, List.length_map, List.length_range]
  obtain ⟨r, hr⟩ : ∃ r, sumS E.data.toList = r := ⟨_, rfl⟩
  have lr : r < 65536 := by rw [← hr]; exact sumS_lt _
  obtain ⟨u, hu⟩ : ∃ u, turnW r = u := ⟨_, rfl⟩
  have hTr : sumS T.data.toList = u := by
    rw [hTd, ← hu, ← hr, turnW_sum]
    unfold sumS
    rw [wsum_swap _ (by simpa using hE2)]
  have z1 := ssum_1 T (by omega) hTr
  have z2 := ssum_1 E (by omega) hr
  have zt := turned_c r lr hu
  have HT := Lib.hid hT
  clear hE hs hTd hTs hr hu hTr hT
  go_enter Try.func10, Try.ntmps10
  go_upto_region 4 with (first
    | (go_at_call 12; ((with_reducible refine (awake3_c _).mono ?_); rintro e wa ⟨rfl, g⟩; replace G := htrans G g; clear g))
    | (go_at_call 18; ((with_reducible refine (zl _).mono ?_); rintro e w1 ⟨rfl, g⟩; replace G := htrans G g; clear g))
    | (go_at_call 25; ((with_reducible refine (ze _).mono ?_); rintro e w9 ⟨rfl, rfl⟩)))
  have HW9 := G
  have hcv := run_bytes_of_string (P := Try.prog) w9 9 26 5 E Try.underlying9 Try.underlying26 Try.underlying5
  obtain ⟨cap, hcap⟩ : ∃ c : Nat, grownCap w9 E.size 0 5 = c := ⟨_, rfl⟩
  rw [hcap] at hcv
  have hB : Bts (w9.alloc (.cells (bytesRow E cap) 5 ((bytesRow E cap).size, (bytesRow E cap).size + 1))).drew w9.heap.size E.size (bv E) := (Bts.text w9 E cap 5).on (Wider.refl _).drew
  replace G : Hid (Wider w (w9.alloc (.cells (bytesRow E cap) 5 ((bytesRow E cap).size, (bytesRow E cap).size + 1))).drew) := hdrewA G
  obtain ⟨B, hBe⟩ : ∃ B : Nat, w9.heap.size = B := ⟨_, rfl⟩
  have hBw : w.heap.size ≤ B := by
    have g : Wider w w9 := HW9.out
    rw [← hBe]; exact g.2
  clear hcap
  go_wp2_with fail
  clear hcv
  rw [hBe] at hB
  try simp only [hBe]
  generalize (w9.alloc (.cells (bytesRow E cap) 5 ((bytesRow E cap).size, (bytesRow E cap).size + 1))).drew = V1 at *
  clear HW9 hBe
  go_loopw [4] (fun i wr => ∃ k : Nat, k ≤ E.size ∧ k % 2 = 0 ∧ i = .int .i64 (k : Int) ∧ Bts wr B E.size (fun j => if j < k then sv E j else bv E j) ∧ Hid (Wider w wr)) (fun i _ => E.size - (intOf i).toNat)
  case atStart => exact ⟨0, by omega, by omega, by simp, hB.congr (fun j hj => by simp), G⟩
  case round =>
    clear hB G
    obtain ⟨k, hk, hk2, rfl, hc, G⟩ := hrel
    by_cases d : k + 1 < E.size
    · have i0 : (0 : Int) ≤ (k : Int) := by omega
      have i1 : (k : Int) < (E.size : Int) := by omega
      have j0 : (0 : Int) ≤ (k : Int) + 1 := by omega
      have j1 : (k : Int) + 1 < (E.size : Int) := by omega
      have f1 : IntKind.i64.wrap ((k : Int) + 1) = (k : Int) + 1 := IntWalk.i64_in _ (by omega)
      have d0 := hc.cell k (by omega)
      have d1 := hc.cell (k + 1) d
      have e0 := hc.free k (by omega)
      have e1 := hc.free (k + 1) d
      rw [if_neg (by omega)] at d0 d1
      obtain ⟨x, hx⟩ : ∃ x, bv E k = x := ⟨_, rfl⟩
      obtain ⟨y, hy⟩ : ∃ y, bv E (k + 1) = y := ⟨_, rfl⟩
      rw [hx] at d0
      rw [hy] at d1
      have HX := Lib.hid hx
      have HY := Lib.hid hy
      clear hx hy
      go_upto_region 8 with fail
      go_region
      all_goals
        go_wp2
        go_roundw
        case rel =>
          refine ⟨k + 2, by omega, by omega, by go_num, ?_, ?_⟩
          · have p1 := hc.put (k := k) (y := y) (u := fun j => if j = k then y else if j < k then sv E j else bv E j) (by omega) (fun j _ => rfl)
            refine (p1.put (k := k + 1) (y := x) d (fun j hj => ?_)).on (Wider.refl _).drew
            by_cases q : j = k + 1
            · rw [if_pos q, if_pos (by omega), q, ← HX.out]
              unfold sv
              rw [if_neg (by omega)]; rfl
            · rw [if_neg q]
              by_cases q2 : j = k
              · rw [if_pos q2, if_pos (by omega), q2, ← HY.out]
                unfold sv
                rw [if_pos hk2]
              · rw [if_neg q2]
                by_cases q3 : j < k
                · rw [if_pos q3, if_pos (by omega)]
                · rw [if_neg q3, if_neg (by omega)]
          · exact ((G.out.setCell hBw _).setCell hBw _).drew
        case measure => simp [intOf]; omega
    · obtain rfl : k = E.size := by omega
      have i1 : ¬ (E.size : Int) + 1 < (E.size : Int) := by omega
      replace hc : Bts wr B E.size (sv E) := hc.congr (fun j hj => by rw [if_pos hj])
      have hv := hc.conv cap HT.out
      go_wp2_with (first
        | (go_at_call 13; ((with_reducible refine (z1 _).mono ?_); rintro e w1 ⟨rfl, g⟩; replace G := htrans G g; clear g))
        | (go_at_call 13; ((with_reducible refine (z2 _).mono ?_); rintro e w1 ⟨rfl, g⟩; replace G := htrans G g; clear g))
        | (go_at_call 24; ((with_reducible refine (zt _).mono ?_); rintro e w9 ⟨rfl, rfl⟩)))
      go_ret
      exact ⟨rfl, G.out⟩

set_option maxHeartbeats 4000000 in
theorem sumTurned_walk (s : ByteArray) (hm : s.size ≤ maxLen) (w : World) :
    Calls Try.prog 10 #[.string s] w fun e w' => e = .returned (.bool true) ∧ Wider w w' := by
  unfold maxLen at hm
  have G : Hid (Wider w w) := Wider.refl w
  by_cases h0 : s.size < 39999
  · exact sumTurned_ok s h0 w
  · have zl := long_1 s (by omega) (r := true) (decide_eq_true (by omega))
    go_enter Try.func10, Try.ntmps10
    go_wp2_with (first
      | (go_at_call 12; ((with_reducible refine (awake3_c _).mono ?_); rintro e wa ⟨rfl, g⟩; replace G := htrans G g; clear g))
      | (go_at_call 18; ((with_reducible refine (zl _).mono ?_); rintro e w1 ⟨rfl, g⟩; replace G := htrans G g; clear g)))
    go_ret
    exact ⟨rfl, G.out⟩

set_option maxRecDepth 100000 in
theorem sumTurned_lifted (os : Os) (started : os.Started) (H : Type) (enc : TypeId × Value → H) :
    ReturnsInHanded {} Try.checked os 10 .any (Rows.sumTurnedSpec.pre6 enc Try.prog Try.f10 Rows.sumTurnedRow.domain false) (Rows.sumTurnedSpec.post enc Try.prog Try.f10 false true false false) := by
  refine returnsInHanded_of_change (C := Try.checked) own started (by kernel_rfl) Try.func10
    (ChangeSpec.witness6 (enc := enc) (C := Try.checked) false ⟨#[], #[.string ⟨#[]⟩], []⟩ 8 (by kernel_rfl) (by kernel_rfl) (by kernel_rfl) (by kernel_rfl)) ?_
  intro W base args ds gs before hval0 hW hcnd _
  have hval : ∀ (j : Nat) t v, Try.f10.params[j]? = some t → args[j]? = some v → Value.okWide Try.prog W .any base t v := hval0
  have hW' := hW
  obtain ⟨p, q, hA0, hV, rfl, hfz, hnd⟩ := hW
  have hA : DataW.TrodAll enc Try.prog W 0 (fun _ => true) true Try.f10.params.toList args.toList ds p := hA0
  rw [Try.params10] at hA hval
  obtain ⟨v0, vs0, d0, ds0, p0, q0, hargs, rfl, rfl, h0, r0⟩ := trodAll_cons hA
  obtain ⟨rfl, rfl, rfl⟩ := trodAll_nil r0
  obtain rfl : args = #[v0] := by cases args; simp_all
  obtain ⟨rfl, rfl⟩ := trodVars_none hV
  obtain ⟨s0, rfl, rfl, rfl, w0⟩ := open_string Try.underlying9 (hval 0 9 v0 rfl rfl) h0
  clear hA0 hval0
  simp only [List.append_nil] at hW'
  refine (sumTurned_walk s0 w0 W).mono fun e W' ⟨he, hg⟩ => ?_
  subst he
  exact ⟨_, rfl, post_of_none hW' (fun _ _ _ => (trodAll_cons_mk (shut_bool Try.underlying4 _) trodAll_mk0)) (fun sp => (trodAll_cons_mk (shut_string Try.underlying9 w0) trodAll_mk0)) (fun _ => rfl)
    hg.1 (ok_one (by kernel_rfl) rfl (okWide_bool_mk Try.underlying4 _))⟩

theorem sumTurned_holds : Rows.SumTurnedSaid :=
  OpenClaim.holds_of_wide 10 Try.f10 rfl rfl rfl rfl rfl rfl rfl ⟨rfl, rfl, rfl, rfl, rfl⟩ rfl rfl rfl rfl rfl (by kernel_rfl) Try.func10 (by kernel_rfl)
    (of_decide_eq_true (by kernel_rfl)) (by unfold Func.isWrapper; first | (rw [if_pos (by decide +kernel)]; kernel_rfl) | (rw [if_neg (by decide +kernel)]; exact ⟨rfl, rfl⟩))
    (fun os started H enc _ => sumTurned_lifted os started H enc)

#print axioms sumTurned_holds

end Go.Proofs.Ytlgahhehagffeaa
