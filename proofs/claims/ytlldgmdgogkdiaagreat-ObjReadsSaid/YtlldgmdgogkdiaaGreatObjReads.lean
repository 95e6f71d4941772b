/- The law ObjReads: the object of each kind that any bytes are is the document's, or they are refused; what is told may be written over. No condition. -/
import Derived.Test.YtlldgmdgogkdiaaGreatOReadsO
import Derived.Test.YtlldgmdgogkdiaaGreatODReads
import Derived.Test.YtlldgmdgogkdiaaGreatOLawM
import Derived.SizedLaws
namespace Go.Proofs.YtlldgmdgogkdiaaGreat
set_option linter.unusedVariables false
set_option maxRecDepth 20000
open Go.ChangeShapes Go.WideShapes Go.ChangeAt Go.RowKit Go.Joins
open Go.ChangeMaps (open_string shut_string)

theorem dreadA (s : ByteArray) (w : World) (hs : s.size < 1000000) (k : Nat) (hk : k < 8) {vs : List ValN} {r : Nat} (hr : decG (csKind k) s.data.toList = (vs, r)) :
    Calls Tryz.prog 15 #[.string s, .int .i64 (k : Int)] w fun e w' => ∃ M, e = .returned (.tuple #[.agg M, .int .i64 (r : Int)]) ∧ Wider w w' ∧ RepA w' M (oneV k vs) ∧ M.all (·.oneCell') = true :=
  (dread_c s w hs k hk hr).mono fun e w' ⟨M, h1, h2, h3, h4⟩ => ⟨M, h1, h2, h3.parts, h4⟩
theorem same_eq (w : World) {M N : Array Value} {V : Nat → List ValN} (R : RepA w M V) (Q : RepA w N V) :
    Calls Tryz.prog 14 #[.agg M, .agg N] w fun e w' => e = .returned (.bool true) ∧ Wider w w' := same_c w R Q ⟨fun _ _ _ => rfl, fun _ => rfl⟩
set_option maxHeartbeats 16000000 in
theorem objReads_walk (s : ByteArray) (hms : s.size ≤ maxLen) (w : World) :
    Calls Tryz.prog 4 #[.string s] w fun e w' => e = .returned (.bool true) ∧ Wider w w' := by
  unfold maxLen at hms
  by_cases h0 : 5000 < s.size
  · have c0 : (5000 : Int) < (s.size : Int) := by omega
    have H : Wider w w := Wider.refl w
    go_enter Tryz.func4, Tryz.ntmps4
    go_wp2_with (first
      | (go_at_call 10; (with_reducible refine (awake8_c _).mono ?_); rintro e wN ⟨rfl, gN⟩; replace H := H.trans gN; clear gN))
    go_ret
    exact ⟨rfl, H⟩
  · have c0 : ¬ (5000 : Int) < (s.size : Int) := by omega
    have hs5 : Hid (s.size < 1000000) := by show _ < _; omega
    clear hms h0
    go_enter Tryz.func4, Tryz.ntmps4
    go_wp2
    clear c0
    go_loopw [3] (fun i wr => ∃ k : Nat, k ≤ 8 ∧ i = .int .i64 (k : Int) ∧ Wider w wr) (fun i _ => 8 - (intOf i).toNat)
    case atStart => exact ⟨0, by omega, by simp, Wider.refl w⟩
    case round =>
      obtain ⟨k, hk, rfl, H0⟩ := hrel
      by_cases ck : k < 8
      · have j0 : (0 : Int) ≤ (k : Int) := by omega
        have j1 : (k : Int) < 8 := by omega
        have HB := Lib.hid H0
        have H : Wider wr wr := Wider.refl wr
        obtain ⟨vs, c, hd, hw⟩ := read_ways k s
        have zd := fun W : World => dreadA s W hs5.out k ck hd
        have zr := fun W : World => readsO s W hs5.out k ck hd
        have dc : ((c : Int) != (c : Int)) = false := bne_self_eq_false _
        clear hd hw H0
        go_upto_region 7 with (first
          | (go_at_call 15; (with_reducible refine (zd _).mono ?_); rintro e wN ⟨Y, rfl, gN, RY, oY⟩; replace H := H.trans gN; clear gN; have sY := RY.size)
          | (with_reducible refine wpList_extract rfl (.tmp 17) 0 rfl rfl rfl ?_)
          | (with_reducible refine wpList_extract rfl (.tmp 17) 1 rfl rfl rfl ?_)
          | (with_reducible refine wpList_store_row rfl 46 (.tmp 4) (.tmp 21) rfl wN.heap.size Y rfl rfl 46 zM (heap_alloc_new wN _) (by rw [sY]; kernel_rfl) (by rw [sY]; exact zM_size) oY ?_))
        (try simp only [List.getElem?_cons_zero, Option.getD_some])
        have HS := (setRow_facts Y (heap_alloc_new wN (.cells zM 46))).1
        have hY := (setRow_facts Y (heap_alloc_new wN (.cells zM 46))).2
        have H2 := HS.wider (H.alloc _) (fun i m => by simp only [List.mem_singleton] at m; subst m; exact H.2)
        have H3 := HS.wider ((Wider.refl wN).alloc _) (fun i m => by simp only [List.mem_singleton] at m; subst m; exact Nat.le_refl _)
        replace RY := RY.on H3
        clear HS H3 oY
        obtain ⟨BY, hBe⟩ : ∃ B, wN.heap.size = B := ⟨_, rfl⟩
        obtain ⟨wY, hwS⟩ : ∃ wS, (wN.alloc (.cells zM 46)).setRow wN.heap.size Y = wS := ⟨_, rfl⟩
        rw [hwS] at hY H2 RY ⊢
        rw [hBe] at hY ⊢
        clear hwS hBe H
        replace HB := Lib.hid (HB.out.trans H2)
        have H : Wider wY wY := Wider.refl _
        clear H2
        clear zd
        go_wp2
        go_loopw [6] (fun i wq => ∃ j : Nat, j ≤ 2 ∧ i = .int .i64 (j : Int) ∧ Wider wY wq) (fun i _ => 2 - (intOf i).toNat)
        case atStart => exact ⟨0, by omega, by simp, H⟩
        case round =>
          obtain ⟨j, hj, rfl, H1⟩ := hrel
          clear H
          by_cases cj : j < 2
          · have j2 : (0 : Int) ≤ (j : Int) := by omega
            have j3 : (j : Int) < 2 := by omega
            have RZ := RY.on H1
            have hZ := wide_blk hY H1
            go_upto_region 11 with (first
              | (go_at_call 16; (with_reducible refine (zr _).mono ?_); rintro e wN ⟨X, rfl, gN, RX, oX, rm⟩; have sX := RX.size)
              | (with_reducible refine wpList_extract rfl (.tmp 27) 0 rfl rfl rfl ?_)
              | (with_reducible refine wpList_extract rfl (.tmp 27) 1 rfl rfl rfl ?_)
              | (with_reducible refine wpList_store_row rfl 46 (.tmp 7) (.tmp 31) rfl wN.heap.size X rfl rfl 46 zM (heap_alloc_new wN _) (by rw [sX]; kernel_rfl) (by rw [sX]; exact zM_size) oX ?_))
            (try simp only [List.getElem?_cons_zero, Option.getD_some])
            have HS := (setRow_facts X (heap_alloc_new wN (.cells zM 46))).1
            have hX := (setRow_facts X (heap_alloc_new wN (.cells zM 46))).2
            have H2 := HS.wider (gN.alloc _) (fun i m => by simp only [List.mem_singleton] at m; subst m; exact gN.2)
            have H3 := HS.wider ((Wider.refl wN).alloc _) (fun i m => by simp only [List.mem_singleton] at m; subst m; exact Nat.le_refl _)
            replace RX := RX.on H3
            replace RZ := RZ.on H2
            replace hZ := wide_blk hZ H2
            obtain ⟨⟨A0, n0, c0, e0, f0, m0⟩, ⟨A1, n1, c1, e1, f1, m1⟩, ⟨A2, n2, c2, e2, f2, m2⟩, ⟨A3, n3, c3, e3, f3, m3⟩, ⟨A4, n4, c4, e4, f4, m4⟩⟩ := rm
            replace m0 := m0.on H3 H3.2
            replace m1 := m1.on H3 H3.2
            replace m2 := m2.on H3 H3.2
            replace m3 := m3.on H3 H3.2
            replace m4 := m4.on H3 H3.2
            clear HS H3 oX gN
            obtain ⟨BX, hBe⟩ : ∃ B, wN.heap.size = B := ⟨_, rfl⟩
            obtain ⟨wX, hwS⟩ : ∃ wS, (wN.alloc (.cells zM 46)).setRow wN.heap.size X = wS := ⟨_, rfl⟩
            rw [hwS] at hX H2 RX RZ hZ m0 m1 m2 m3 m4 ⊢
            rw [hBe] at hX ⊢
            clear hwS hBe
            have H : Wider wX wX := Wider.refl wX
            refine wp_region_plain H ?_
            repeat (first
              | (go_big_quiet_want; (refine quiet_row 46 (.tmp 7) rfl BX rfl (C := X) _ (after_blk hX) Tryz.underlying46 rfl (by rw [sX]; kernel_rfl) ?_); go_big_quiet_on; simp only [Act.put, List.setIfInBounds_toArray, List.set_cons_succ, List.set_cons_zero])
              | (go_big_quiet_want; (refine quiet_row 46 (.tmp 4) rfl BY rfl (C := Y) _ (after_blk hZ) Tryz.underlying46 rfl (by rw [sY]; kernel_rfl) ?_); go_big_quiet_on; simp only [Act.put, List.setIfInBounds_toArray, List.set_cons_succ, List.set_cons_zero])
              | (go_big_quiet_step (first | (fail) | (go_at_call 14; exact quiet_after (same_eq _ (RX.on (After.h _)) (RZ.on (After.h _))))); (try simp only [Bool.false_eq_true, ↓reduceIte])))
            refine wpQuiet_nil ?_
            rintro _ ⟨y1, rfl⟩
            replace H := y1.h
            have hX2 := wide_blk hX H
            have GX := H2.trans H
            go_wp2_with (first
              | (with_reducible refine wpList_load_row rfl 46 (.tmp 7) rfl BX rfl 46 X (0, 0) _ hX2 Tryz.underlying46 rfl (by rw [sX]; kernel_rfl) ?_)
              | (go_at_call 17; (refine (spoil_c GX sX f0 e0 (m0.on H H.2) f1 e1 (m1.on H H.2) f2 e2 (m2.on H H.2) f3 e3 (m3.on H H.2) f4 e4 (m4.on H H.2)).mono ?_); rintro e wS ⟨rfl, gS⟩))
            go_roundw
            case rel => exact ⟨j + 1, by omega, by go_num, H1.trans gS⟩
            case measure => simp [intOf]; omega
          · have j3 : ¬ (j : Int) < 2 := by omega
            have HE := HB.out.trans H1
            go_wp2
            go_roundw
            case rel => exact ⟨k + 1, by omega, by go_num, HE⟩
            case measure => simp [intOf]; omega
      · have j1 : ¬ (k : Int) < 8 := by omega
        have H := H0
        go_wp2_with (first
          | (go_at_call 10; (with_reducible refine (awake8_c _).mono ?_); rintro e wN ⟨rfl, gN⟩; replace H := H.trans gN; clear gN))
        go_ret
        exact ⟨rfl, H⟩
set_option maxRecDepth 100000 in
theorem objReads_lifted (os : Os) (started : os.Started) (H : Type) (enc : TypeId × Value → H) :
    ReturnsInHanded {} Tryz.checked os 4 .any (Rows.objReadsSpec.pre6 enc Tryz.prog Tryz.f4 Rows.objReadsRow.domain false) (Rows.objReadsSpec.post enc Tryz.prog Tryz.f4 false true false false) := by
  refine returnsInHanded_of_change (C := Tryz.checked) own started (by kernel_rfl) Tryz.func4
    (ChangeSpec.witness6 (enc := enc) (C := Tryz.checked) false ⟨#[], #[.string ⟨#[]⟩], []⟩ 8 (by kernel_rfl) (by kernel_rfl) (by kernel_rfl) (by kernel_rfl)) ?_
  intro W base args ds gs before hval0 hW hcnd _
  have hval : ∀ (j : Nat) t v, Tryz.f4.params[j]? = some t → args[j]? = some v → Value.okWide Tryz.prog W .any base t v := hval0
  have hW' := hW
  obtain ⟨p, q, hA0, hV, rfl, hfz, hnd⟩ := hW
  have hA : DataW.TrodAll enc Tryz.prog W 0 (fun _ => true) true Tryz.f4.params.toList args.toList ds p := hA0
  rw [Tryz.params4] at hA hval
  obtain ⟨v0, vs0, d0, ds0, p0, q0, hargs, rfl, rfl, h0, r0⟩ := trodAll_cons hA
  obtain ⟨rfl, rfl, rfl⟩ := trodAll_nil r0
  obtain rfl : args = #[v0] := by cases args; simp_all
  obtain ⟨rfl, rfl⟩ := trodVars_none hV
  obtain ⟨s0, rfl, rfl, rfl, w0⟩ := open_string Tryz.underlying9 (hval 0 9 v0 rfl rfl) h0
  clear hA0 hval0
  simp only [List.append_nil] at hW'
  refine (objReads_walk s0 w0 W).mono fun e W' ⟨he, hg⟩ => ?_
  subst he
  exact ⟨_, rfl, post_of_none hW' (fun _ _ _ => (trodAll_cons_mk (shut_bool Tryz.underlying4 _) trodAll_mk0)) (fun sp => (trodAll_cons_mk (shut_string Tryz.underlying9 w0) trodAll_mk0)) (fun _ => rfl)
    hg.1 (ok_one (by kernel_rfl) rfl (okWide_bool_mk Tryz.underlying4 _))⟩

theorem objReads_holds : Rows.ObjReadsSaid :=
  OpenClaim.holds_of_wide 4 Tryz.f4 rfl rfl rfl rfl rfl rfl rfl ⟨rfl, rfl, rfl, rfl, rfl⟩ rfl rfl rfl rfl rfl (by kernel_rfl) Tryz.func4 (by kernel_rfl)
    (of_decide_eq_true (by kernel_rfl)) (by unfold Func.isWrapper; first | (rw [if_pos (by decide +kernel)]; kernel_rfl) | (rw [if_neg (by decide +kernel)]; exact ⟨rfl, rfl⟩))
    (fun os started H enc _ => objReads_lifted os started H enc)

#print axioms objReads_holds

end Go.Proofs.YtlldgmdgogkdiaaGreat

