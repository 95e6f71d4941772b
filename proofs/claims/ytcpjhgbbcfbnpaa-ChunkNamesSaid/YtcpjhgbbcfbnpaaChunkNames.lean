/- The law ChunkNames: the examples; lengths at both ends; streams of nil, and such as nobody made. A closed statement. -/
import Derived.Test.YtcpjhgbbcfbnpaaChunkShuts
import Derived.WalkKit
import Derived.Lib.Hide
import Derived.Deep.DeepCutAuto
import Derived.WalkLawsBesides
import Derived.WalkSpells
import Derived.BigQuiet
import Derived.BigRegion
import Derived.Deep.RegionHeld3
namespace Go.Proofs.Ytcpjhgbbcfbnpaa
set_option linter.unusedVariables false
open Go.ChangeShapes Go.WideShapes Go.ChangeAt Go.RowKit Go.Joins
open Go.ChangeMaps (open_string shut_string)


theorem many_c (n : Nat) (v : Int) (hv : v = (n : Int)) (hn : n < 1000000) {T : ByteArray} (hT : strOfNums ((List.range n).map fun _ => (0 : Int)) = T) (w : World) :
    Calls Try.prog 12 #[.int .i64 v] w fun e w' => e = .returned (.string T) ∧ Wider w w' := by
  subst hv
  have hmk := makeN n hn w
  have hcv := (Bts.made w n).conv n hT
  have i0 : (0 : Int) ≤ (n : Int) := by omega
  clear hT
  go_enter Try.func12, Try.ntmps12
  go_wp2
  go_ret
  exact ⟨rfl, (Wider.refl w).alloc _⟩
theorem zeros_data (n : Nat) {T : ByteArray} (hT : strOfNums ((List.range n).map fun _ => (0 : Int)) = T) : T.data.toList = List.replicate n 0 := by
  rw [← hT, strOfNums_data, List.map_map]
  apply List.ext_getElem
  · simp
  · intro i h1 h2
    rw [List.getElem_map]
    simp only [Function.comp, List.getElem_replicate]; rfl
theorem zeros_size (n : Nat) {T : ByteArray} (hT : strOfNums ((List.range n).map fun _ => (0 : Int)) = T) : T.size = n := by rw [size_data, zeros_data n hT]; simp
/-- Four bytes that may not be a length. -/
def BadB (x : ByteArray) : Prop := ∃ a b c d : UInt8, x = ⟨#[a, b, c, d]⟩ ∧ goodK (lenK a b c d) = false
theorem bad_feed {x : ByteArray} (h : BadB x) : ∃ r, r.length < 1000000 ∧ x.size = 4 ∧ (x.extract 0 3).size < 1000000 ∧ (x.extract 3 x.size).size < 1000000 ∧ StrK.new.feed (x.extract 0 3) = ([], 0, ⟨r, false⟩) ∧ (StrK.mk r false).feed (x.extract 3 x.size) = ([], 5, ⟨[], true⟩) := by
  obtain ⟨a, b, c, d, rfl, hg⟩ := h
  have e1 : ((⟨#[a, b, c, d]⟩ : ByteArray).extract 0 3).data.toList = [a, b, c] := by rw [extract_list]; rfl
  have e2 : ((⟨#[a, b, c, d]⟩ : ByteArray).extract 3 (⟨#[a, b, c, d]⟩ : ByteArray).size).data.toList = [d] := by rw [extract_list]; rfl
  refine ⟨[a, b, c], by simp, rfl, by rw [size_data, e1]; simp, by rw [size_data, e2]; simp, ?_, ?_⟩
  · exact feed_of [] _ [a, b, c] (by rw [e1]; rfl) (m := []) (r2 := [a, b, c]) (b := false) (feedK_few _ _ (by simp))
  · refine feed_of [a, b, c] _ [a, b, c, d] (by rw [e2]; rfl) (m := []) (r2 := []) (b := true) ?_
    rw [feedK_some, if_pos hg]
theorem Own.zero {V w : World} {L : List Thing} (H : Own V w L) : Own V (w.alloc (.cells zK 37)) (strT ⟨w.heap.size, 0, none⟩ StrK.new [w.heap.size] :: L) :=
  H.make (s := strT ⟨w.heap.size, 0, none⟩ StrK.new [w.heap.size]) ((Wider.refl w).alloc _) (kzero_a w) (strAt_stable _ _ _) (fun i hi => by
    have : i = w.heap.size := by simpa using hi
    subst this
    exact ⟨Nat.le_refl _, by rw [World.size_alloc]; omega⟩)
theorem kfeed_z {V W : World} {L : List Thing} (H : Own V W L) (s : ByteArray) (hs : s.size < 1000000) {m : List ByteArray} {n c : Nat} {y : StrK} (hf : StrK.new.feed s = (m, c, y)) (hn : m.length = n) :
    Calls Try.prog 14 #[.pointer (some ⟨W.heap.size, 0, none⟩), .string s] (W.alloc (.cells zK 37)) fun e w' => ∃ B c2 F', e = .returned (.tuple #[.slice B n c2, .int .i64 (c : Int)]) ∧ Own V w' (strT ⟨W.heap.size, 0, none⟩ y F' :: rowT 9 1 (.slice B n c2) n (cellsS m) :: L) :=
  kfeed_1 H.zero s hs (by decide) hf hn
theorem Own.lit {V w : World} {L : List Thing} (H : Own V w L) (t : TypeId) (C : Array Value) (l : List ByteArray) (hC : C = (l.map Value.string).toArray) {n : Nat} (hn : l.length = n) (hl : n < 600000) :
    Own V (w.alloc (.cells C t)) (rowT t 1 (.slice (some ⟨w.heap.size, 0, none⟩) n n) n (cellsS l) :: L) := by
  have hm : n ≤ maxLen := by unfold maxLen; omega
  have r := World.ownsRow_lit (e := t) (base := w.heap.size) (size := 1) w C n (Nat.le_refl _) hm (by rw [hC]; simp [hn])
  have e : C.toList = cellsS l := by rw [hC]; rfl
  rw [e] at r
  exact H.row ((Wider.refl w).alloc _) r
def fiveB : List ByteArray := [⟨#[0, 0, 0, 0]⟩, ⟨#[255, 255, 255, 255]⟩, ⟨#[128, 0, 0, 5]⟩, ⟨#[0, 1, 0, 5]⟩, ⟨#[1, 0, 0, 5]⟩]
theorem fiveB_bad : ∀ x ∈ fiveB, BadB x := by
  intro x hx
  simp only [fiveB, List.mem_cons, List.not_mem_nil, or_false] at hx
  rcases hx with rfl | rfl | rfl | rfl | rfl
  · exact ⟨0, 0, 0, 0, rfl, by decide⟩
  · exact ⟨255, 255, 255, 255, rfl, by decide⟩
  · exact ⟨128, 0, 0, 5, rfl, by decide⟩
  · exact ⟨0, 1, 0, 5, rfl, by decide⟩
  · exact ⟨1, 0, 0, 5, rfl, by decide⟩
set_option maxRecDepth 100000 in
set_option maxHeartbeats 16000000 in
theorem chunkNames_walk (w : World) : Calls Try.prog 3 #[] w fun e w' => e = .returned (.bool true) ∧ Wider w w' := by
  have H : Own w w [] := Own.nil (Wider.refl w)
  obtain ⟨z5, hz5⟩ : ∃ T, strOfNums ((List.range 5).map fun _ => (0 : Int)) = T := ⟨_, rfl⟩
  obtain ⟨zM, hzM⟩ : ∃ T, strOfNums ((List.range 16384).map fun _ => (0 : Int)) = T := ⟨_, rfl⟩
  obtain ⟨z4, hz4⟩ : ∃ T, strOfNums ((List.range 4).map fun _ => (0 : Int)) = T := ⟨_, rfl⟩
  obtain ⟨zN, hzN⟩ : ∃ T, strOfNums ((List.range 16385).map fun _ => (0 : Int)) = T := ⟨_, rfl⟩
  have d5 := zeros_data _ hz5
  have dM := zeros_data _ hzM
  have s5 := zeros_size _ hz5
  have sM := zeros_size _ hzM
  have s4 := zeros_size _ hz4
  have sN := zeros_size _ hzN
  have g5 := frame_goodB (s := z5) (decide_eq_true (by omega))
  have gM := frame_goodB (s := zM) (decide_eq_true (by omega))
  obtain ⟨LE, hLE⟩ : ∃ T, framT z5 = T := ⟨_, rfl⟩
  obtain ⟨M, hM⟩ : ∃ T, framT zM = T := ⟨_, rfl⟩
  have k5 : frameK z5 = [0, 0, 0, 5, 0, 0, 0, 0, 0] := by unfold frameK; rw [s5, d5]; rfl
  obtain ⟨RR, hRR⟩ : ∃ R, List.replicate 16384 (0 : UInt8) = R := ⟨_, rfl⟩
  have lRR : RR.length = 16384 := by rw [← hRR]; simp
  rw [hRR] at dM
  have kM : frameK zM = 0 :: 0 :: 64 :: 0 :: RR := by unfold frameK; rw [sM, dM]; rfl
  have dL : LE.data.toList = [0, 0, 0, 5, 0, 0, 0, 0, 0] := by rw [← hLE, g5.2, k5]
  have dMM : M.data.toList = 0 :: 0 :: 64 :: 0 :: RR := by rw [← hM, gM.2, kM]
  have sL : LE.size = 9 := by rw [size_data, dL]; rfl
  have sMM : M.size = 16388 := by rw [size_data, dMM]; simp [lRR]
  have hLE2 : LE = ⟨#[0, 0, 0, 5, 0, 0, 0, 0, 0]⟩ := by apply ba_ext; rw [dL]
  have q1 : LE.toList = [0, 0, 0, 5, 0, 0, 0, 0, 0] := by rw [ByteArray.toList_eq]; exact dL
  have q2 : ((M.size : Int) != 16388) = false := by rw [sMM]; rfl
  have q3 : M.extract 0 4 = ⟨#[0, 0, 64, 0]⟩ := by
    apply ba_ext
    rw [extract_list, dMM]; rfl
  have e4 : framE z4 = 4 := by unfold framE; rw [if_pos (by omega)]
  have e5 : framE zN = 5 := by unfold framE; rw [if_neg (by omega), if_pos (by omega)]
  have f4 : framT z4 = ⟨#[]⟩ := by unfold framT; rw [e4]; rfl
  have f5 : framT zN = ⟨#[]⟩ := by unfold framT; rw [e5]; rfl
  have e0 : framE ⟨#[]⟩ = 4 := rfl
  have f0 : framT ⟨#[]⟩ = ⟨#[]⟩ := rfl
  have l5 : z5.size < 1000000 := by omega
  have lM : zM.size < 1000000 := by omega
  have l4 : z4.size < 1000000 := by omega
  have lN : zN.size < 1000000 := by omega
  obtain ⟨M1, hM1⟩ : ∃ U, M.extract 0 100 = U := ⟨_, rfl⟩
  obtain ⟨M2, hM2⟩ : ∃ U, M.extract 100 M.size = U := ⟨_, rfl⟩
  obtain ⟨L8, hL8⟩ : ∃ U, LE.extract 0 8 = U := ⟨_, rfl⟩
  have dM1 : M1.data.toList = M.data.toList.take 100 := by rw [← hM1, extract_list]; rfl
  have dM2 : M2.data.toList = M.data.toList.drop 100 := by
    rw [← hM2, extract_list, List.take_of_length_le (by rw [← size_data]; exact Nat.le_refl _)]
  have dL8 : L8.data.toList = [0, 0, 0, 5, 0, 0, 0, 0] := by rw [← hL8, extract_list, dL]; rfl
  obtain ⟨r1, hr1⟩ : ∃ r, M.data.toList.take 100 = r := ⟨_, rfl⟩
  have hr1c : r1 = 0 :: 0 :: 64 :: 0 :: RR.take 96 := by rw [← hr1, dMM]; rfl
  have lr1 : r1.length = 100 := by rw [hr1c]; simp [lRR]
  have sM1 : M1.size < 1000000 := by rw [size_data, dM1, hr1]; omega
  have F1 : Hid (StrK.new.feed M1 = ([], 0, ⟨r1, false⟩)) := by
    refine feed_of [] M1 r1 (by rw [dM1, hr1]; rfl) (m := []) (r2 := r1) (b := false) ?_
    rw [hr1c, feedK_some, if_neg (by decide), if_pos (by simp only [List.length_take, lRR]; decide)]
  have F2 : Hid ((StrK.mk r1 false).feed (M2 ++ LE ++ L8) = ([zM, z5], 0, ⟨[0, 0, 0, 5, 0, 0, 0, 0], false⟩)) := by
    refine feed_of r1 _ (frameK zM ++ (frameK z5 ++ [0, 0, 0, 5, 0, 0, 0, 0])) ?_ (m := [zM, z5]) (r2 := [0, 0, 0, 5, 0, 0, 0, 0]) (b := false) ?_
    · rw [ByteArray.data_append, Array.toList_append, ByteArray.data_append, Array.toList_append, dM2, ← hr1, dL8, ← List.append_assoc, ← List.append_assoc, List.take_append_drop, ← hM, gM.2, ← hLE, g5.2, List.append_assoc]
    · rw [feedK_frame [] zM (by omega) (by omega), feedK_frame _ z5 (by omega) (by omega), feedK_some, if_neg (by decide), if_pos (by decide)]; rfl
  have F3 : Hid ((StrK.mk [0, 0, 0, 5, 0, 0, 0, 0] false).feed (⟨#[0, 0, 0, 0, 4]⟩ ++ LE) = ([z5], 5, ⟨[], true⟩)) := by
    refine feed_of _ _ (frameK z5 ++ (0 :: 0 :: 0 :: 4 :: LE.data.toList)) ?_ (m := [z5]) (r2 := []) (b := true) ?_
    · rw [ByteArray.data_append, Array.toList_append, k5]; rfl
    · rw [feedK_frame [] z5 (by omega) (by omega), feedK_some, if_pos (by decide)]; rfl
  have F4 : Hid ((StrK.mk [] true).feed ⟨#[]⟩ = ([], 14, ⟨[], true⟩)) := Lib.hid rfl
  have sM2 : M2.size = 16288 := by rw [size_data, dM2, List.length_drop, dMM]; simp [lRR]
  have sL8 : L8.size = 8 := by rw [size_data, dL8]; rfl
  have sY2 : (M2 ++ LE ++ L8).size < 1000000 := by rw [ByteArray.size_append, ByteArray.size_append]; omega
  have sY3 : ((⟨#[0, 0, 0, 0, 4]⟩ : ByteArray) ++ LE).size < 1000000 := by
    rw [ByteArray.size_append]
    have : (⟨#[0, 0, 0, 0, 4]⟩ : ByteArray).size = 5 := rfl
    omega
  have h0r : StrK.new.r.length < 1000000 := by decide
  have h1r : (StrK.mk r1 false).r.length < 1000000 := by show r1.length < _; omega
  have h2r : (StrK.mk [0, 0, 0, 5, 0, 0, 0, 0] false).r.length < 1000000 := by decide
  have h3r : (StrK.mk [] true).r.length < 1000000 := by decide
  have E5 := Lib.hid g5.1
  have EM := Lib.hid gM.1
  have FL := Lib.hid hLE
  have FM := Lib.hid hM
  have E4 := Lib.hid e4
  have EN := Lib.hid e5
  have T4 := Lib.hid f4
  have TN := Lib.hid f5
  have E0 := Lib.hid e0
  have T0 := Lib.hid f0
  have Z5 := Lib.hid hz5
  have ZM := Lib.hid hzM
  have Z4 := Lib.hid hz4
  have ZN := Lib.hid hzN
  have p1 : (100 : Int) ≤ (M.size : Int) := by omega
  have p2 : (4 : Int) ≤ (M.size : Int) := by omega
  have p3 : (8 : Int) ≤ (LE.size : Int) := by omega
  obtain ⟨Y1, hY1⟩ : ∃ U, M2 ++ LE = U := ⟨_, rfl⟩
  obtain ⟨Y2, hY2⟩ : ∃ U, Y1 ++ L8 = U := ⟨_, rfl⟩
  rw [hY1, hY2] at F2 sY2
  have ad1 : ∀ W : World, (Op.stringOp .add M2 LE).run Try.prog W = .ok (.string Y1) W := fun W => by
    rw [run_string_add_sum W _ _ (by omega), hY1]
  have ad2 : ∀ W : World, (Op.stringOp .add Y1 L8).run Try.prog W = .ok (.string Y2) W := fun W => by
    rw [run_string_add_sum W _ _ (by rw [← hY1, ByteArray.size_append]; omega), hY2]
  have ad3 : ∀ W : World, (Op.stringOp .add (M.extract 100 M.size) LE).run Try.prog W = .ok (.string Y1) W := fun W => by rw [hM2]; exact ad1 W
  have ad4 : ∀ W : World, (Op.stringOp .add Y1 (LE.extract 0 8)).run Try.prog W = .ok (.string Y2) W := fun W => by rw [hL8]; exact ad2 W
  have p4 : M2.size + LE.size < 1152921504606846976 := by omega
  have p6 : 5 + LE.size < 1152921504606846976 := by omega
  have a1 : (#[Value.string zM, .string z5] : Array Value) = (([zM, z5] : List ByteArray).map Value.string).toArray := rfl
  have a2 : (#[Value.string z5] : Array Value) = (([z5] : List ByteArray).map Value.string).toArray := rfl
  have A1 := Lib.hid a1
  have C5 : Hid ((#[Value.string ⟨#[0, 0, 0, 0]⟩, .string ⟨#[255, 255, 255, 255]⟩, .string ⟨#[128, 0, 0, 5]⟩, .string ⟨#[0, 1, 0, 5]⟩, .string ⟨#[1, 0, 0, 5]⟩] : Array Value) = (fiveB.map Value.string).toArray) := Lib.hid rfl
  have N5 : Hid (fiveB.length = 5) := Lib.hid rfl
  have N2 : Hid (([zM, z5] : List ByteArray).length = 2) := Lib.hid rfl
  have N1 : Hid (([z5] : List ByteArray).length = 1) := Lib.hid rfl
  have A2 := Lib.hid a2
  have W8 : (StrK.mk [0, 0, 0, 5, 0, 0, 0, 0] false).r.length = 8 := rfl
  have W0 : (StrK.mk [] true).r.length = 0 := rfl
  clear d5 dM s5 sM s4 sN g5 gM hLE hM k5 kM dL dMM sL sMM hLE2 e4 e5 f4 f5 e0 f0 dM1 dM2 dL8 hr1 hr1c lr1 sM2 sL8 a1 a2 hz5 hzM hz4 hzN hRR lRR
  have V5 : Hid ((5 : Int) = ((5 : Nat) : Int)) := Lib.hid rfl
  have V16384 : Hid ((16384 : Int) = ((16384 : Nat) : Int)) := Lib.hid rfl
  have V4 : Hid ((4 : Int) = ((4 : Nat) : Int)) := Lib.hid rfl
  have V16385 : Hid ((16385 : Int) = ((16385 : Nat) : Int)) := Lib.hid rfl
  go_enter Try.func3, Try.ntmps3
  go_upto_region 12 with (first
    | (go_at_call 10; ((with_reducible refine (awake7_c _).mono ?_); rintro e w1 ⟨rfl, g⟩; replace H := H.quiet g; clear g; skip))
    | (go_at_call 12; ((with_reducible refine (many_c 5 5 V5.out (by decide) Z5.out _).mono ?_); rintro e w1 ⟨rfl, g⟩; replace H := H.quiet g; clear g; skip))
    | (go_at_call 12; ((with_reducible refine (many_c 16384 16384 V16384.out (by decide) ZM.out _).mono ?_); rintro e w1 ⟨rfl, g⟩; replace H := H.quiet g; clear g; skip))
    | (go_at_call 12; ((with_reducible refine (many_c 4 4 V4.out (by decide) Z4.out _).mono ?_); rintro e w1 ⟨rfl, g⟩; replace H := H.quiet g; clear g; skip))
    | (go_at_call 12; ((with_reducible refine (many_c 16385 16385 V16385.out (by decide) ZN.out _).mono ?_); rintro e w1 ⟨rfl, g⟩; replace H := H.quiet g; clear g; skip))
    | (go_at_call 11; ((with_reducible refine (kframe_a (r := 0) z5 _ l5 E5.out FL.out).mono ?_); rintro e w1 ⟨rfl, g⟩; replace H := H.quiet g; clear g; skip))
    | (go_at_call 11; ((with_reducible refine (kframe_a (r := 0) zM _ lM EM.out FM.out).mono ?_); rintro e w1 ⟨rfl, g⟩; replace H := H.quiet g; clear g; skip))
    | (go_at_call 11; ((with_reducible refine (kframe_a (r := 4) z4 _ l4 E4.out T4.out).mono ?_); rintro e w1 ⟨rfl, g⟩; replace H := H.quiet g; clear g; skip))
    | (go_at_call 11; ((with_reducible refine (kframe_a (r := 5) zN _ lN EN.out TN.out).mono ?_); rintro e w1 ⟨rfl, g⟩; replace H := H.quiet g; clear g; skip))
    | (go_at_call 11; ((with_reducible refine (kframe_a (r := 4) ⟨#[]⟩ _ (by decide) E0.out T0.out).mono ?_); rintro e w1 ⟨rfl, g⟩; replace H := H.quiet g; clear g; skip))
    | (go_at_call 13; ((with_reducible refine (knew_1 H).mono ?_); clear H; rintro e w1 ⟨p, F, rfl, H⟩; skip))
    | (go_at_call 14; ((with_reducible refine (kfeed_1 (n := 0) (c := 0) H M1 sM1 h0r F1.out rfl).mono ?_); clear H; rintro e w1 ⟨B1, c1, F1, rfl, H⟩; skip)))
  replace H := H.drew
  go_region_held3 (fun w' => Wider w w') (first | assumption | exact H.wider)
    (first
      | (go_at_call 14; ((with_reducible refine (kfeed_1 (n := 2) (c := 0) H Y2 sY2 h1r F2.out rfl).mono ?_); clear H; rintro e w1 ⟨B2, c2, F5, rfl, H⟩; skip)))
  all_goals
    go_upto_region 20 with (first
      | (go_at_call 12; ((with_reducible refine (many_c 16384 16384 V16384.out (by decide) ZM.out _).mono ?_); rintro e w1 ⟨rfl, g⟩; replace H := H.quiet g; clear g; skip))
      | (go_at_call 12; ((with_reducible refine (many_c 5 5 V5.out (by decide) Z5.out _).mono ?_); rintro e w1 ⟨rfl, g⟩; replace H := H.quiet g; clear g; skip))
      | (go_at_call 15; ((with_reducible refine (same_l H.drop.strs 9 _ A1.out N2.out (by decide)).mono ?_); rintro e w1 ⟨rfl, g⟩; replace H := H.quiet g; clear g))
      | (go_at_call 16; ((with_reducible refine (kwaits_b H.head W8).mono ?_); rintro e w1 ⟨rfl, g⟩; replace H := H.quiet g; clear g; skip))
      | (go_at_call 14; ((with_reducible refine (kfeed_1 (n := 1) (c := 5) H _ sY3 h2r F3.out rfl).mono ?_); clear H; rintro e w1 ⟨B3, c3, F6, rfl, H⟩; skip))
      | (go_at_call 14; ((with_reducible refine (kfeed_1 (n := 0) (c := 14) H ⟨#[]⟩ (by decide) h3r F4.out rfl).mono ?_); clear H; rintro e w1 ⟨B4, c4, F7, rfl, H⟩; skip))
      | (go_at_call 15; ((with_reducible refine (same_l H.drop.drop.strs 9 _ A2.out N1.out (by decide)).mono ?_); rintro e w1 ⟨rfl, g⟩; replace H := H.quiet g; clear g))
      | (go_at_call 17; ((with_reducible refine (kclosed_a (x := ⟨[], true⟩) H.head).mono ?_); rintro e w1 ⟨rfl, g⟩; replace H := H.quiet g; clear g; skip))
      | (go_at_call 16; ((with_reducible refine (kwaits_b H.head W0).mono ?_); rintro e w1 ⟨rfl, g⟩; replace H := H.quiet g; clear g; skip)))
    replace H := H.lit 9 _ fiveB C5.out N5.out (by decide)
    have HD := Lib.hid (H.as (q := rowT 9 1 _ 5 (cellsS fiveB)) rfl H.head (rowT_stable _ _ _ _ _)).one
    clear H
    go_loopw [176] (fun i wr => ∃ j : Nat, j ≤ 5 ∧ i = .int .i64 (j : Int) ∧ Own w wr [rowT 9 1 (.slice (some ⟨w1.heap.size, 0, none⟩) 5 5) 5 (cellsS fiveB)]) (fun i _ => 5 - (intOf i).toNat)
    case atStart => exact ⟨0, by omega, by simp, HD.out⟩
    case round =>
      clear HD
      obtain ⟨j, hj, rfl, H⟩ := hrel
      by_cases c : j < 5
      · have j0 : (0 : Int) ≤ (j : Int) := by omega
        have j1 : (j : Int) < 5 := by omega
        obtain ⟨x, hx⟩ := next_some fiveB j (by rw [N5.out]; exact c)
        have c0 := H.strs.cell ⟨w1.heap.size, 0, none⟩ rfl j x hx
        rw [Addr.add_lit, Nat.zero_add] at c0
        obtain ⟨r, x1, x2, x3, x4, x5, x6⟩ := bad_feed (fiveB_bad x (List.mem_of_getElem? hx))
        have X5 := Lib.hid x5
        have X6 := Lib.hid x6
        have y1 : (3 : Int) ≤ (x.size : Int) := by omega
        have x7 : (StrK.mk r false).r.length < 1000000 := x1
        clear x2 x5 x6 hx
        go_wp2_with (first
          | (go_at_call 14; ((with_reducible refine (kfeed_z (n := 0) (c := 0) H _ x3 X5.out rfl).mono ?_); clear H; rintro e w1 ⟨B5, c5, F8, rfl, H⟩; skip))
          | (go_at_call 14; ((with_reducible refine (kfeed_1 (n := 0) (c := 5) H _ x4 x7 X6.out rfl).mono ?_); clear H; rintro e w1 ⟨B6, c6, F9, rfl, H⟩; skip))
          | (go_at_call 17; ((with_reducible refine (kclosed_a (x := ⟨[], true⟩) H.head).mono ?_); rintro e w1 ⟨rfl, g⟩; replace H := H.quiet g; clear g; skip)))
        go_roundw
        case rel => exact ⟨j + 1, by omega, by go_num, H.drop.drop.drop⟩
        case measure => simp [intOf]; omega
      · have i1 : ¬ (j : Int) < 5 := by omega
        go_wp2_with (first
          | (go_at_call 14; ((with_reducible refine (knil_feed ⟨#[97]⟩ _).mono ?_); rintro e w1 ⟨rfl, g⟩; replace H := H.quiet g; clear g; skip))
          | (go_at_call 16; ((with_reducible refine (knil_waits _).mono ?_); rintro e w1 ⟨rfl, g⟩; replace H := H.quiet g; clear g; skip))
          | (go_at_call 17; ((with_reducible refine (knil_closed _).mono ?_); rintro e w1 ⟨rfl, g⟩; replace H := H.quiet g; clear g; skip)))
        go_ret
        exact ⟨rfl, H.wider⟩
set_option maxRecDepth 100000 in
theorem chunkNames_lifted (os : Os) (started : os.Started) (H : Type) (enc : TypeId × Value → H) :
    ReturnsInHanded {} Try.checked os 3 .any (Rows.chunkNamesSpec.pre6 enc Try.prog Try.f3 Rows.chunkNamesRow.domain false) (Rows.chunkNamesSpec.post enc Try.prog Try.f3 false true false false) := by
  refine returnsInHanded_of_change (C := Try.checked) own started (by kernel_rfl) Try.func3
    (ChangeSpec.witness6 (enc := enc) (C := Try.checked) false ⟨#[], #[], []⟩ 8 (by kernel_rfl) (by kernel_rfl) (by kernel_rfl) (by kernel_rfl)) ?_
  intro W base args ds gs before hval0 hW hcnd _
  have hval : ∀ (j : Nat) t v, Try.f3.params[j]? = some t → args[j]? = some v → Value.okWide Try.prog W .any base t v := hval0
  have hW' := hW
  obtain ⟨p, q, hA0, hV, rfl, hfz, hnd⟩ := hW
  have hA : DataW.TrodAll enc Try.prog W 0 (fun _ => true) true Try.f3.params.toList args.toList ds p := hA0
  rw [Try.params3] at hA hval
  obtain ⟨hargs, rfl, rfl⟩ := trodAll_nil hA
  obtain rfl : args = #[] := by cases args; simp_all
  obtain ⟨rfl, rfl⟩ := trodVars_none hV
  clear hA0 hval0
  simp only [List.append_nil] at hW'
  refine (chunkNames_walk  W).mono fun e W' ⟨he, hg⟩ => ?_
  subst he
  exact ⟨_, rfl, post_of_none hW' (fun _ _ _ => (trodAll_cons_mk (shut_bool Try.underlying4 _) trodAll_mk0)) (fun sp => trodAll_mk0) (fun _ => rfl)
    hg.1 (ok_one (by kernel_rfl) rfl (okWide_bool_mk Try.underlying4 _))⟩

theorem chunkNames_holds : Rows.ChunkNamesSaid :=
  OpenClaim.holds_of_wide 3 Try.f3 rfl rfl rfl rfl rfl rfl rfl ⟨rfl, rfl, rfl, rfl, rfl⟩ rfl rfl rfl rfl rfl (by kernel_rfl) Try.func3 (by kernel_rfl)
    (of_decide_eq_true (by kernel_rfl)) (by unfold Func.isWrapper; first | (rw [if_pos (by decide +kernel)]; kernel_rfl) | (rw [if_neg (by decide +kernel)]; exact ⟨rfl, rfl⟩))
    (fun os started H enc _ => chunkNames_lifted os started H enc)

#print axioms chunkNames_holds

end Go.Proofs.Ytcpjhgbbcfbnpaa
