/- The law SumNames: the examples; what goes round at both ends; long texts. A closed statement: no condition. -/
import Derived.Test.YtlgahhehagffeaaSAwake
import Derived.Test.YtlgahhehagffeaaSOpen
import Derived.Test.YtlgahhehagffeaaSMake
import Derived.Lib.Hide
import Derived.Deep.DeepCutAuto
import Derived.WalkLawsBesides
import Derived.WalkSpells
namespace Go.Proofs.Ytlgahhehagffeaa
set_option linter.unusedVariables false
open Go.ChangeShapes Go.WideShapes Go.ChangeAt Go.RowKit Go.Joins
open Go.ChangeMaps (open_string shut_string)

theorem sn1 (w : World) : Calls Try.prog 13 #[.slice none 0 0] w fun e w' => e = .returned (.int .u16 0) ∧ Wider w w' :=
  ssum_c none 0 0 [] w (StrsAt.nil w) rfl (by decide) (by decide) (r := 0) (by decide)
theorem sn2 (w : World) : Calls Try.prog 14 #[.slice none 0 0] w fun e w' => e = .returned (.int .u16 65535) ∧ Wider w w' :=
  sof_c none 0 0 [] w (StrsAt.nil w) rfl (by decide) (by decide) (r := 65535) (by decide)
theorem sn3 (w : World) : Calls Try.prog 15 #[.int .u16 0, .int .u16 0] w fun e w' => e = .returned (.int .u16 0) ∧ Wider w w' :=
  sadd_c 0 0 (by decide) (by decide) (r := 0) (by decide) w
theorem sn4 (w : World) : Calls Try.prog 15 #[.int .u16 65535, .int .u16 0] w fun e w' => e = .returned (.int .u16 65535) ∧ Wider w w' :=
  sadd_c 65535 0 (by decide) (by decide) (r := 65535) (by decide) w
theorem sn5 (w : World) : Calls Try.prog 15 #[.int .u16 32768, .int .u16 32768] w fun e w' => e = .returned (.int .u16 1) ∧ Wider w w' :=
  sadd_c 32768 32768 (by decide) (by decide) (r := 1) (by decide) w
theorem sn6 (w : World) : Calls Try.prog 15 #[.int .u16 65534, .int .u16 1] w fun e w' => e = .returned (.int .u16 65535) ∧ Wider w w' :=
  sadd_c 65534 1 (by decide) (by decide) (r := 65535) (by decide) w
theorem sn7 (W : World) : Calls Try.prog 13 #[.slice (some ⟨W.heap.size, 0, none⟩) 1 1] (W.alloc (.cells #[.string ⟨#[255]⟩] 9)) fun e w' => e = .returned (.int .u16 65280) ∧ Wider W w' :=
  ssum_l [⟨#[255]⟩] 1 _ (r := 65280) rfl rfl (by decide) (by decide) (by decide) W
theorem sn8 (W : World) : Calls Try.prog 13 #[.slice (some ⟨W.heap.size, 0, none⟩) 1 1] (W.alloc (.cells #[.string ⟨#[255, 255, 255, 255]⟩] 9)) fun e w' => e = .returned (.int .u16 65535) ∧ Wider W w' :=
  ssum_l [⟨#[255, 255, 255, 255]⟩] 1 _ (r := 65535) rfl rfl (by decide) (by decide) (by decide) W
theorem sn9 (W : World) : Calls Try.prog 13 #[.slice (some ⟨W.heap.size, 0, none⟩) 4 4] (W.alloc (.cells #[.string ⟨#[255]⟩, .string ⟨#[255]⟩, .string ⟨#[]⟩, .string ⟨#[0, 1]⟩] 9)) fun e w' => e = .returned (.int .u16 1) ∧ Wider W w' :=
  ssum_l [⟨#[255]⟩, ⟨#[255]⟩, ⟨#[]⟩, ⟨#[0, 1]⟩] 4 _ (r := 1) rfl rfl (by decide) (by decide) (by decide) W
theorem sn10 (w : World) : Calls Try.prog 16 #[.string ⟨#[0, 0]⟩] w fun e w' => e = .returned (.bool false) ∧ Wider w w' :=
  sgood_c ⟨#[0, 0]⟩ (by decide) (by decide) w
theorem sn11 (w : World) : Calls Try.prog 16 #[.string ⟨#[255]⟩] w fun e w' => e = .returned (.bool false) ∧ Wider w w' :=
  sgood_c ⟨#[255]⟩ (by decide) (by decide) w
theorem sn12 (w : World) : Calls Try.prog 16 #[.string ⟨#[255, 0, 0, 255]⟩] w fun e w' => e = .returned (.bool true) ∧ Wider w w' :=
  sgood_c ⟨#[255, 0, 0, 255]⟩ (by decide) (by decide) w
theorem sn13 (w : World) : Calls Try.prog 17 #[.int .u16 0, .int .u16 0, .int .u16 0] w fun e w' => e = .returned (.int .u16 0) ∧ Wider w w' :=
  supdate_c 0 0 0 (by decide) (by decide) (by decide) (r := 0) (by decide) w
theorem sn14 (w : World) : Calls Try.prog 17 #[.int .u16 65535, .int .u16 0, .int .u16 0] w fun e w' => e = .returned (.int .u16 0) ∧ Wider w w' :=
  supdate_c 65535 0 0 (by decide) (by decide) (by decide) (r := 0) (by decide) w
theorem sn15 (w : World) : Calls Try.prog 17 #[.int .u16 65535, .int .u16 65535, .int .u16 0] w fun e w' => e = .returned (.int .u16 65535) ∧ Wider w w' :=
  supdate_c 65535 65535 0 (by decide) (by decide) (by decide) (r := 65535) (by decide) w
theorem wsum_255 : ∀ k e, wsum e (List.replicate (2 * k) 255) = 65535 * k := by
  intro k
  induction k with
  | zero => intro e; rfl
  | succ k ih =>
    intro e
    rw [show 2 * (k + 1) = (2 * k + 1) + 1 by omega, List.replicate_succ, List.replicate_succ]
    have h : wsum e (255 :: 255 :: List.replicate (2 * k) 255) = (255 : UInt8).toNat * (if e then 256 else 1) + ((255 : UInt8).toNat * (if (!e) then 256 else 1) + wsum (!!e) (List.replicate (2 * k) 255)) := rfl
    have z : (255 : UInt8).toNat = 255 := rfl
    rw [h, ih, z]
    cases e <;> simp <;> omega
theorem long_data : (strOfNums ((List.range 300000).map fun _ => (255 : Int))).data.toList = List.replicate (2 * 150000) 255 := by
  rw [strOfNums_data, List.map_map]
  apply List.ext_getElem
  · simp only [List.length_map, List.length_range, List.length_replicate]
  · intro i h1 h2
    rw [List.getElem_map, List.getElem_replicate]; rfl
theorem long_sum : sumS (List.replicate (2 * 150000) 255) = 65535 := by
  unfold sumS; rw [wsum_255]; rfl
theorem long_sum1 : sumS (List.replicate (2 * 150000) 255 ++ [0, 1]) = 1 := by
  rw [sumS_even _ (by rw [List.length_replicate]), long_sum]; decide

theorem long_join2 (T : ByteArray) : (joinL [T, ⟨#[0, 1]⟩]).data.toList = T.data.toList ++ [0, 1] := by rw [joinL_data]; simp
theorem long_size2 (T : ByteArray) (h : T.size = 300000) : (joinL [T, ⟨#[0, 1]⟩]).size < 1000000 := by
  have e := congrArg List.length (long_join2 T)
  have e2 : T.data.toList.length = T.size := by simp
  simp only [List.length_append, e2, h] at e
  have e3 : (joinL [T, ⟨#[0, 1]⟩]).size = (joinL [T, ⟨#[0, 1]⟩]).data.toList.length := by simp
  rw [e3, e]; decide

set_option maxRecDepth 100000 in
set_option maxHeartbeats 8000000 in
theorem sumNames_walk (w : World) :
    Calls Try.prog 3 #[] w fun e w' => e = .returned (.bool true) ∧ Wider w w' := by
  have G : Hid (Wider w w) := Wider.refl w
  obtain ⟨T, hT⟩ : ∃ T, strOfNums ((List.range 300000).map fun _ => (255 : Int)) = T := ⟨_, rfl⟩
  have hTd : T.data.toList = List.replicate (2 * 150000) 255 := by rw [← hT]; exact long_data
  have hTs : T.size = 300000 := by
    have e : T.size = T.data.toList.length := by simp
    rw [e, hTd, List.length_replicate]
  have zs1 : ∀ W : World, Calls Try.prog 13 #[.slice (some ⟨W.heap.size, 0, none⟩) 1 1] (W.alloc (.cells #[.string T] 9)) fun e w' => e = .returned (.int .u16 65535) ∧ Wider W w' :=
    ssum_1 T (by omega) (r := 65535) (by rw [hTd]; exact long_sum)
  have zs2 : ∀ W : World, Calls Try.prog 13 #[.slice (some ⟨W.heap.size, 0, none⟩) 2 2] (W.alloc (.cells #[.string T, .string ⟨#[0, 1]⟩] 9)) fun e w' => e = .returned (.int .u16 1) ∧ Wider W w' :=
    fun W => ssum_l [T, ⟨#[0, 1]⟩] 2 _ (r := 1) rfl rfl (by decide) (long_size2 T hTs) (by rw [long_join2, hTd]; exact long_sum1) W
  have zg : ∀ W : World, Calls Try.prog 16 #[.string T] W fun e w' => e = .returned (.bool true) ∧ Wider W w' :=
    sgood_c T (by omega) (b := true) (by rw [hTd]; exact decide_eq_true long_sum)
  have HT : Hid (strOfNums ((List.range 300000).map fun _ => (255 : Int)) = T) := hT
  have hmk : ∀ W : World, (Instr.makeSlice 26 (.int .i64 300000) (.int .i64 300000)).run Try.prog W = .ok (.slice (some ⟨W.heap.size, 0, none⟩) 300000 300000) (W.alloc (.cells (zerosN 300000) 5)) := makeN 300000 (by decide)
  clear hT hTd
  go_enter Try.func3, Try.ntmps3
  go_upto_region 3 with (first
    | (go_at_call 12; ((with_reducible refine (awake3_c _).mono ?_); rintro e wa ⟨rfl, g⟩; replace G := htrans G g; clear g))
    | (go_at_call 13; ((with_reducible refine (sn1 _).mono ?_); rintro e w1 ⟨rfl, g⟩; replace G := htrans G g; clear g))
    | (go_at_call 14; ((with_reducible refine (sn2 _).mono ?_); rintro e w1 ⟨rfl, g⟩; replace G := htrans G g; clear g))
    | (go_at_call 15; ((with_reducible refine (sn3 _).mono ?_); rintro e w1 ⟨rfl, g⟩; replace G := htrans G g; clear g))
    | (go_at_call 15; ((with_reducible refine (sn4 _).mono ?_); rintro e w1 ⟨rfl, g⟩; replace G := htrans G g; clear g))
    | (go_at_call 15; ((with_reducible refine (sn5 _).mono ?_); rintro e w1 ⟨rfl, g⟩; replace G := htrans G g; clear g))
    | (go_at_call 15; ((with_reducible refine (sn6 _).mono ?_); rintro e w1 ⟨rfl, g⟩; replace G := htrans G g; clear g))
    | (go_at_call 13; ((with_reducible refine (sn7 _).mono ?_); rintro e w1 ⟨rfl, g⟩; replace G := htrans G g; clear g))
    | (go_at_call 13; ((with_reducible refine (sn8 _).mono ?_); rintro e w1 ⟨rfl, g⟩; replace G := htrans G g; clear g))
    | (go_at_call 13; ((with_reducible refine (sn9 _).mono ?_); rintro e w1 ⟨rfl, g⟩; replace G := htrans G g; clear g)))
  have hG1 := G
  go_upto_region 4 with fail
  clear hmk
  obtain ⟨V, hV⟩ : ∃ V : World, V = w1 := ⟨w1, rfl⟩
  have hM := Bts.made w1 300000
  replace G := halloc2 G (.cells (zerosN 300000) 5)
  obtain ⟨B, hB⟩ : ∃ B : Nat, w1.heap.size = B := ⟨_, rfl⟩
  have hBw : w.heap.size ≤ B := by rw [← hB]; exact hG1.out.2
  rw [hB] at hM
  try simp only [hB]
  generalize w1.alloc (.cells (zerosN 300000) 5) = V1 at *
  clear hV hB
  go_wp2_with fail
  go_loopw [2] (fun i wr => ∃ k : Nat, k ≤ 300000 ∧ i = .int .i64 (k : Int) ∧ Bts wr B 300000 (fun j => if j < k then 255 else 0) ∧ Hid (Wider w wr)) (fun i _ => 300000 - (intOf i).toNat)
  case atStart => exact ⟨0, by omega, by simp, hM.congr (fun j hj => by simp), G⟩
  case round =>
    clear hM G
    obtain ⟨k, hk, rfl, hc, G⟩ := hrel
    by_cases c : k < 300000
    · have i0 : (0 : Int) ≤ (k : Int) := by omega
      have i1 : (k : Int) < 300000 := by omega
      have d0 := hc.cell k c
      have d1 := hc.free k c
      go_wp2
      go_roundw
      case rel =>
        refine ⟨k + 1, by omega, by go_num, hc.put c (fun j hj => ?_), G.out.setCell hBw _⟩
        by_cases e : j = k
        · subst e; rw [if_pos (by omega), if_pos rfl]
        · rw [if_neg e]
          by_cases l : j < k
          · rw [if_pos l, if_pos (by omega)]
          · rw [if_neg l, if_neg (by omega)]
      case measure => simp [intOf]; omega
    · have i1 : ¬ (k : Int) < 300000 := by omega
      replace hc : Bts wr B 300000 (fun _ => 255) := hc.congr (fun j hj => by rw [if_pos (by omega)])
      have hv := hc.conv 300000 HT.out
      clear hk
      go_wp2_with (first
        | (go_at_call 13; ((with_reducible refine (zs1 _).mono ?_); rintro e w1 ⟨rfl, g⟩; replace hc := hc.on g; have hv := hc.conv 300000 HT.out; replace G := htrans G g; clear g))
        | (go_at_call 13; ((with_reducible refine (zs2 _).mono ?_); rintro e w1 ⟨rfl, g⟩; replace hc := hc.on g; have hv := hc.conv 300000 HT.out; replace G := htrans G g; clear g))
        | (go_at_call 16; ((with_reducible refine (zg _).mono ?_); rintro e w1 ⟨rfl, g⟩; replace hc := hc.on g; have hv := hc.conv 300000 HT.out; replace G := htrans G g; clear g))
        | (go_at_call 16; ((with_reducible refine (sn10 _).mono ?_); rintro e w1 ⟨rfl, g⟩; replace G := htrans G g; clear g))
        | (go_at_call 16; ((with_reducible refine (sn11 _).mono ?_); rintro e w1 ⟨rfl, g⟩; replace G := htrans G g; clear g))
        | (go_at_call 16; ((with_reducible refine (sn12 _).mono ?_); rintro e w1 ⟨rfl, g⟩; replace G := htrans G g; clear g))
        | (go_at_call 17; ((with_reducible refine (sn13 _).mono ?_); rintro e w1 ⟨rfl, g⟩; replace G := htrans G g; clear g))
        | (go_at_call 17; ((with_reducible refine (sn14 _).mono ?_); rintro e w1 ⟨rfl, g⟩; replace G := htrans G g; clear g))
        | (go_at_call 17; ((with_reducible refine (sn15 _).mono ?_); rintro e w1 ⟨rfl, g⟩; replace G := htrans G g; clear g)))
      go_ret
      exact ⟨rfl, G.out⟩

set_option maxRecDepth 100000 in
theorem sumNames_lifted (os : Os) (started : os.Started) (H : Type) (enc : TypeId × Value → H) :
    ReturnsInHanded {} Try.checked os 3 .any (Rows.sumNamesSpec.pre6 enc Try.prog Try.f3 Rows.sumNamesRow.domain false) (Rows.sumNamesSpec.post enc Try.prog Try.f3 false true false false) := by
  refine returnsInHanded_of_change (C := Try.checked) own started (by kernel_rfl) Try.func3
    (ChangeSpec.witness6 (enc := enc) (C := Try.checked) false ⟨#[], #[], []⟩ 8 (by kernel_rfl) (by kernel_rfl) (by kernel_rfl) (by kernel_rfl)) ?_
  intro W base args ds gs before hval0 hW hcnd _
  have hval : ∀ (j : Nat) t v, Try.f3.params[j]? = some t → args[j]? = some v → Value.okWide Try.prog W .any base t v := hval0
  have hW' := hW
  obtain ⟨p, q, hA0, hV, rfl, hfz, hnd⟩ := hW
  have hA : DataW.TrodAll enc Try.prog W 0 (fun _ => true) true Try.f3.params.toList args.toList ds p := hA0
  rw [Try.params3] at hA hval
  obtain ⟨hargs, rfl, rfl⟩ := trodAll_nil hA
  obtain rfl : args = #[] := by cases args; simp_all
  obtain ⟨rfl, rfl⟩ := trodVars_none hV
  clear hA0 hval0
  simp only [List.append_nil] at hW'
  refine (sumNames_walk  W).mono fun e W' ⟨he, hg⟩ => ?_
  subst he
  exact ⟨_, rfl, post_of_none hW' (fun _ _ _ => (trodAll_cons_mk (shut_bool Try.underlying4 _) trodAll_mk0)) (fun sp => trodAll_mk0) (fun _ => rfl)
    hg.1 (ok_one (by kernel_rfl) rfl (okWide_bool_mk Try.underlying4 _))⟩

theorem sumNames_holds : Rows.SumNamesSaid :=
  OpenClaim.holds_of_wide 3 Try.f3 rfl rfl rfl rfl rfl rfl rfl ⟨rfl, rfl, rfl, rfl, rfl⟩ rfl rfl rfl rfl rfl (by kernel_rfl) Try.func3 (by kernel_rfl)
    (of_decide_eq_true (by kernel_rfl)) (by unfold Func.isWrapper; first | (rw [if_pos (by decide +kernel)]; kernel_rfl) | (rw [if_neg (by decide +kernel)]; exact ⟨rfl, rfl⟩))
    (fun os started H enc _ => sumNames_lifted os started H enc)

#print axioms sumNames_holds

end Go.Proofs.Ytlgahhehagffeaa
