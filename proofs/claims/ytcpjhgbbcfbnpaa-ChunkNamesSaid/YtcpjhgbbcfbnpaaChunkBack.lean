/- The law ChunkBack: frames, one behind the other, are told as their bodies; nothing waits then. No condition. -/
import Derived.Test.YtcpjhgbbcfbnpaaKAux
import Derived.Test.YtcpjhgbbcfbnpaaSOpen
import Derived.WalkKit
import Derived.Lib.Hide
import Derived.Deep.DeepCutAuto
import Derived.WalkLawsBesides
import Derived.WalkSpells
import Derived.BigQuiet
import Derived.BigRegion
import Derived.Deep.RegionHeld3
namespace Go.Proofs.Ytcpjhgbbcfbnpaa
set_option linter.unusedVariables false
open Go.ChangeShapes Go.WideShapes Go.ChangeAt Go.RowKit Go.Joins
open Go.ChangeMaps (open_string shut_string)


/-- May a text be a body? -/
def bodyB (s : ByteArray) : Bool := decide (5 ≤ s.size ∧ s.size ≤ 16384)
theorem frame_goodB {s : ByteArray} (h : bodyB s = true) : framE s = 0 ∧ (framT s).data.toList = frameK s := by
  have h := of_decide_eq_true h
  have e : framE s = 0 := by unfold framE; rw [if_neg (by omega), if_neg (by omega)]
  exact ⟨e, by unfold framT; rw [if_pos e, mkB_data]⟩
theorem cutK_ex (n : Nat) (k : Int) (hn : n < 1152921504606846976) : ∃ P : Nat, wrap64 ((IntKind.u64.wrap k).tmod ((n : Int) + 1)) = (P : Int) ∧ P ≤ n := by
  have u0 : 0 ≤ IntKind.u64.wrap k := by rw [IntKind.wrap_u64]; omega
  rw [Int.tmod_eq_emod_of_nonneg u0]
  have v0 := Int.emod_nonneg (IntKind.u64.wrap k) (show (n : Int) + 1 ≠ 0 by omega)
  have v1 := Int.emod_lt_of_pos (IntKind.u64.wrap k) (show (0 : Int) < (n : Int) + 1 by omega)
  generalize IntKind.u64.wrap k % ((n : Int) + 1) = V at *
  refine ⟨V.toNat, ?_, by omega⟩
  unfold wrap64; omega
theorem bodies_join (l : List ByteArray) (j : Nat) : (((l.take j).filter bodyB).flatMap frameK).length ≤ bulkK l := by
  have h : ∀ m : List ByteArray, ((m.filter bodyB).flatMap frameK).length ≤ bulkK m := by
    intro m
    induction m with
    | nil => simp
    | cons a m ih =>
      have e : bulkK (a :: m) = (100 + min 60000 a.size) + bulkK m := by simp [bulkK]
      rw [e, List.filter_cons]
      split
      · rename_i g
        have g := of_decide_eq_true g
        rw [List.flatMap_cons, List.length_append, frameK_length]; omega
      · omega
  have h2 : bulkK (l.take j) ≤ bulkK l := by
    have e : ∀ a b : List ByteArray, bulkK (a ++ b) = bulkK a + bulkK b := fun a b => by simp [bulkK]
    have e2 := e (l.take j) (l.drop j)
    rw [List.take_append_drop] at e2
    omega
  exact Nat.le_trans (h _) h2
theorem filter_len (l : List ByteArray) (j : Nat) : ((l.take j).filter bodyB).length ≤ l.length := by
  have h1 := List.length_filter_le bodyB (l.take j)
  have h2 : (l.take j).length ≤ l.length := by rw [List.length_take]; omega
  omega
theorem filter_next {l : List ByteArray} {j : Nat} {s : ByteArray} (h : l.take (j + 1) = l.take j ++ [s]) : (l.take (j + 1)).filter bodyB = (l.take j).filter bodyB ++ (if bodyB s = true then [s] else []) := by
  rw [h, List.filter_append]
  cases h2 : bodyB s <;> simp [h2]
theorem size_mem (l : List ByteArray) : ∀ x ∈ l, x.size ≤ (joinL l).size := by
  rw [joinL_size]
  induction l with
  | nil => intro x hx; cases hx
  | cons a l ih =>
    intro x hx
    simp only [List.map_cons, List.sum_cons]
    rcases List.mem_cons.1 hx with rfl | hx
    · omega
    · have := ih x hx; omega
/-- A text cut in two, and nothing between. -/
theorem joinL_cut (T : ByteArray) (k : Nat) (hk : k ≤ T.size) : joinL [T.extract 0 k, ⟨#[]⟩, T.extract k T.size] = T := by
  apply ba_ext
  rw [joinL_data]
  simp only [List.flatMap_cons, List.flatMap_nil, List.append_nil]
  rw [extract_list, extract_list, List.drop_zero]
  have e : (T.data.toList.take T.size) = T.data.toList := List.take_of_length_le (by rw [← size_data]; exact Nat.le_refl _)
  rw [e]
  show T.data.toList.take k ++ ([] ++ _) = _
  rw [List.nil_append, List.take_append_drop]
/-- fed, over a literal that has just been made. -/
theorem fed_lit {V W : World} {L : List Thing} {p : Addr} {x : StrK} {F : List Nat} (H : Own V W (strT p x F :: L)) (t : TypeId) (C : Array Value) (l : List ByteArray) (hC : C = (l.map Value.string).toArray) {n : Nat} (hn : l.length = n) (hl : n < 600000) (hb : x.r.length + (joinL l).size < 1000000)
    {o : List ByteArray} {d k : Nat} {z : StrK} (hf : fedK x l = (o, d, z)) (hk : o.length = k) :
    Calls Try.prog 21 #[.pointer (some p), .slice (some ⟨W.heap.size, 0, none⟩) n n] (W.alloc (.cells C t)) fun e w' => ∃ B c2 F', e = .returned (.tuple #[.slice B k c2, .int .i64 (d : Int)]) ∧ Own V w' (strT p z F' :: rowT 9 1 (.slice B k c2) k (cellsS o) :: L) := by
  have hm : n ≤ maxLen := by unfold maxLen; omega
  have r := World.ownsRow_lit (e := t) (base := W.heap.size) (size := 1) W C n (Nat.le_refl _) hm (by rw [hC]; simp [hn])
  have e : C.toList = cellsS l := by rw [hC]; rfl
  rw [e] at r
  have H2 := (H.row ((Wider.refl W).alloc _) r).swap
  exact (fed_2 H2 hn (by omega) hb hf hk).mono fun e w' ⟨B, c2, F', he, H⟩ => ⟨B, c2, F', he, H.third.drop⟩
theorem fed_litd {V W : World} {L : List Thing} {p : Addr} {x : StrK} {F : List Nat} (H : Own V W (strT p x F :: L)) (t : TypeId) (C : Array Value) (l : List ByteArray) (hC : C = (l.map Value.string).toArray) {n : Nat} (hn : l.length = n) (hl : n < 600000) (hb : x.r.length + (joinL l).size < 1000000)
    {o : List ByteArray} {d k : Nat} {z : StrK} (hf : fedK x l = (o, d, z)) (hk : o.length = k) :
    Calls Try.prog 21 #[.pointer (some p), .slice (some ⟨W.heap.size, 0, none⟩) n n] (W.alloc (.cells C t)).drew fun e w' => ∃ B c2 F', e = .returned (.tuple #[.slice B k c2, .int .i64 (d : Int)]) ∧ Own V w' (strT p z F' :: rowT 9 1 (.slice B k c2) k (cellsS o) :: L) :=
  fed_lit (W := W.drew) H.drew t C l hC hn hl hb hf hk
set_option maxRecDepth 100000 in
set_option maxHeartbeats 16000000 in
theorem chunkBack_walk (w : World) (A : Option Addr) (n cap : Nat) (l : List ByteArray) (hn : l.length = n) (ha : StrsAt w A l) (hm : l.length ≤ maxLen) (hz : ∀ y ∈ l, y.size ≤ maxLen) (at_ : Int) (o0 : -9223372036854775808 ≤ at_) (o1 : at_ ≤ 9223372036854775807) :
    Calls Try.prog 7 #[.slice A n cap, .int .i64 at_] w fun e w' => e = .returned (.bool true) ∧ Wider w w' := by
  unfold maxLen at hm hz
  have H : Own w w [] := Own.nil (Wider.refl w)
  have hz1 : ∀ x ∈ l, x.size ≤ 9223372036854775807 := fun x hx => by have := hz x hx; omega
  obtain ⟨b, hb⟩ : ∃ b : Bool, decide (60000 ≤ bulkK l) = b := ⟨_, rfl⟩
  cases b with
  | true =>
    go_enter Try.func7, Try.ntmps7
    go_wp2_with (first
      | (go_at_call 10; ((with_reducible refine (awake7_c _).mono ?_); rintro e w1 ⟨rfl, g⟩; replace H := H.quiet g; clear g))
      | (go_at_call 18; ((with_reducible refine (klong_c A n cap l _ (ha.on H.wider) hn (by omega) hz1 hb).mono ?_); rintro e w9 ⟨rfl, rfl⟩)))
    go_ret
    exact ⟨rfl, H.wider⟩
  | false =>
    have hk0 := of_decide_eq_false hb
    have hl1 := (bulkK_join l (by omega)).2
    have hl : n < 600 := by omega
    obtain ⟨i0, hi, hy0, hy1, hy2⟩ := info_parts infoStr
    have HN := Lib.hid hn
    have hjt : Hid (∀ j, (((l.take j).filter bodyB).flatMap frameK).length < 60000) := fun j => by have := bodies_join l j; omega
    have hft : Hid (∀ j, ((l.take j).filter bodyB).length < 600) := fun j => by have := filter_len l j; omega
    have HZ : Hid (∀ x ∈ l, x.size < 60000) := fun x hx => by
      have h1 := size_mem l x hx
      have h2 := (bulkK_join l (by omega)).1
      omega
    clear hk0 hl1
    go_enter Try.func7, Try.ntmps7
    go_upto_region 6 with (first
      | (go_at_call 10; ((with_reducible refine (awake7_c _).mono ?_); rintro e w1 ⟨rfl, g⟩; replace H := H.quiet g; clear g))
      | (go_at_call 18; ((with_reducible refine (klong_c A n cap l _ (ha.on H.wider) hn (by omega) hz1 hb).mono ?_); rintro e w9 ⟨rfl, rfl⟩)))
    replace H := H.row (Wider.refl _) (World.ownsRow_nil _ _ 9 1)
    go_loopw [5, 6, 7] (fun u v i wr => ∃ j : Nat, j ≤ n ∧ i = .int .i64 (j : Int) ∧ ∃ S N B c2, u = .string S ∧ S.data.toList = ((l.take j).filter bodyB).flatMap frameK ∧ v = .slice B N c2 ∧ ((l.take j).filter bodyB).length = N ∧ Own w9 wr [rowT 9 1 (.slice B N c2) N (cellsS ((l.take j).filter bodyB))]) (fun _ _ i _ => n - (intOf i).toNat)
    case atStart => exact ⟨0, by omega, by simp, _, 0, none, 0, rfl, rfl, rfl, rfl, H⟩
    case round =>
      clear H
      obtain ⟨j, hj, rfl, S, N, B, c2, rfl, hS, rfl, hN, H⟩ := hrel
      have HS := Lib.hid hS
      have HL := Lib.hid hN
      clear hS hN
      have hA := ha.on H.wider
      have hN6 : N < 600 := by rw [← HL.out]; exact hft.out j
      by_cases c : j < n
      · have j0 : (0 : Int) ≤ (j : Int) := by omega
        have j1 : (j : Int) < (n : Int) := by omega
        obtain ⟨s, hs⟩ := next_some l j (by have := HN.out; omega)
        cases A with
        | none => exact absurd (hA.none_ rfl) (by intro e; rw [e] at hs; simp at hs)
        | some a =>
          have c0 := hA.cell a rfl j s hs
          have hss0 := HZ.out s (List.mem_of_getElem? hs)
          have TK := Lib.hid (take_next l j s hs)
          have FN := filter_next TK.out
          have hs6 : s.size < 1000000 := by omega
          have HC : Hid (∀ W, Wider w9 W → W.cell? (a.add j) = some (.string s)) := fun W g => (ha.on g).cell a rfl j s hs
          obtain ⟨X, hX⟩ : ∃ X, framT s = X := ⟨_, rfl⟩
          clear hs
          by_cases q1 : s.size < 5
          · have hE : framE s = 4 := by unfold framE; rw [if_pos q1]
            have hb0 : bodyB s = false := decide_eq_false (by omega)
            rw [hb0] at FN
            simp only [Bool.false_eq_true, if_false, List.append_nil] at FN
            have FN := Lib.hid FN
            have d0 : ¬ (5 : Int) ≤ (s.size : Int) := by omega
            have d1 : decide ((5 : Int) ≤ (s.size : Int)) = false := decide_eq_false d0
            clear hss0
            go_wp2_with (first
              | (go_at_call 11; ((with_reducible refine (kframe_a s _ hs6 hE hX).mono ?_); rintro e w1 ⟨rfl, g⟩; replace H := H.quiet g; clear g; have c9 := HC.out _ H.wider)))
            go_roundw
            case rel => exact ⟨j + 1, by omega, by go_num, S, N, B, c2, rfl, by rw [FN.out]; exact HS.out, rfl, by rw [FN.out]; exact HL.out, by rw [FN.out]; exact H⟩
            case measure => simp [intOf]; omega
          · by_cases q2 : 16384 < s.size
            · have hE : framE s = 5 := by unfold framE; rw [if_neg q1, if_pos q2]
              have hb0 : bodyB s = false := decide_eq_false (by omega)
              rw [hb0] at FN
              simp only [Bool.false_eq_true, if_false, List.append_nil] at FN
              have FN := Lib.hid FN
              have d0 : (5 : Int) ≤ (s.size : Int) := by omega
              have d1 : decide ((5 : Int) ≤ (s.size : Int)) = true := decide_eq_true d0
              have d2 : ¬ (s.size : Int) ≤ 16384 := by omega
              have d3 : decide ((s.size : Int) ≤ 16384) = false := decide_eq_false d2
              clear hss0
              go_wp2_with (first
                | (go_at_call 11; ((with_reducible refine (kframe_a s _ hs6 hE hX).mono ?_); rintro e w1 ⟨rfl, g⟩; replace H := H.quiet g; clear g; have c9 := HC.out _ H.wider)))
              go_roundw
              case rel => exact ⟨j + 1, by omega, by go_num, S, N, B, c2, rfl, by rw [FN.out]; exact HS.out, rfl, by rw [FN.out]; exact HL.out, by rw [FN.out]; exact H⟩
              case measure => simp [intOf]; omega
            · have hb1 : bodyB s = true := decide_eq_true ⟨by omega, by omega⟩
              obtain ⟨hE, hFd⟩ := frame_goodB hb1
              rw [hb1] at FN
              simp only [if_true] at FN
              have ST : Hid ((S ++ X).data.toList = ((l.take (j + 1)).filter bodyB).flatMap frameK) := by
                show _ = _
                rw [ByteArray.data_append, Array.toList_append, HS.out, ← hX, hFd, FN, List.flatMap_append]; simp
              have hL6 : Hid (((l.take (j + 1)).filter bodyB).length = N + 1) := by show _ = _; rw [FN, List.length_append, HL.out]; rfl
              have hL5 : Hid (cellsS ((l.take j).filter bodyB) ++ [.string s] = cellsS ((l.take (j + 1)).filter bodyB)) := by show _ = _; rw [FN, cellsS_append]; rfl
              have hL3 : Hid (N + 1 ≤ maxLen) := by show _ ≤ _; unfold maxLen; omega
              have hL4 : Hid ((N + 1) * 16 ≤ 140737488355328) := by show _ ≤ _; omega
              have hsz : S.size + X.size < 1152921504606846976 := by
                have e1 := hjt.out (j + 1)
                rw [← ST.out, ← size_data, ByteArray.size_append] at e1
                omega
              clear hFd FN hss0
              go_wp2_with (first
                | (go_at_call 11; ((with_reducible refine (kframe_a s _ hs6 hE hX).mono ?_); rintro e w1 ⟨rfl, g⟩; replace H := H.quiet g; clear g; have c9 := HC.out _ H.wider))
                | (at_builtin; refine wpList_append_lit rfl (.tmp 54) (.tmp 59) 29 rfl 9 i0 Try.underlying29 hi hy0 hy1 hy2 _ _ _ rfl H _ _ rfl hL3.out hL4.out rfl hL5.out ?_; clear H; intro B4 c4 w2 H))
              go_roundw
              case rel => exact ⟨j + 1, by omega, by go_num, _, _, _, _, rfl, ST.out, rfl, hL6.out, H⟩
              case measure => simp [intOf]; omega
      · have e := HS.out
        have e6 := HL.out
        have e7 := List.take_of_length_le (l := l) (i := j) (by have := HN.out; omega)
        rw [e7] at e e6 H
        obtain ⟨m, hm2⟩ : ∃ m, l.filter bodyB = m := ⟨_, rfl⟩
        rw [hm2] at e e6 H
        have hgood : ∀ s ∈ m, 5 ≤ s.size ∧ s.size ≤ 16384 := fun s hs => by
          rw [← hm2] at hs
          exact of_decide_eq_true (List.mem_filter.1 hs).2
        have hTs : S.size < 60000 := by
          have e1 := hjt.out j
          rw [← HS.out, ← size_data] at e1
          exact e1
        obtain ⟨k, hk, hkl⟩ := cutK_ex S.size at_ (by omega)
        have hF : feedK [] S.data.toList = (m, [], false) := by
          rw [e]
          have q := feedK_frames m hgood [] []
          rw [List.append_nil] at q
          rw [q]; exact feedK_few _ _ (by decide)
        obtain ⟨U1, hU1⟩ : ∃ U, S.extract 0 k = U := ⟨_, rfl⟩
        obtain ⟨U2, hU2⟩ : ∃ U, S.extract k S.size = U := ⟨_, rfl⟩
        have hj2 := joinL_cut S k hkl
        rw [hU1, hU2] at hj2
        have hfd := fedK_join StrK.new StrK.new_ok rfl [U1, ⟨#[]⟩, U2]
        rw [hj2, show StrK.new.r ++ S.data.toList = S.data.toList from rfl, hF] at hfd
        simp only [Bool.false_eq_true, if_false] at hfd
        have hb3 : StrK.new.r.length + (joinL [U1, ⟨#[]⟩, U2]).size < 1000000 := by rw [hj2]; show 0 + _ < _; omega
        have i1 : ¬ (j : Int) < (n : Int) := by omega
        have k0 : (0 : Int) ≤ (k : Int) := by omega
        have k1 : (k : Int) ≤ (S.size : Int) := by omega
        have hwr : IntKind.u64.wrap ((S.size : Int) + 1) = (S.size : Int) + 1 := by rw [IntKind.wrap_u64]; omega
        have hw0 : (StrK.mk [] false).r.length = 0 := rfl
        clear HS HL e e7 hF hj2 hm2 hgood
        go_upto_region 16 with (first
          | (go_at_call 13; ((with_reducible refine (knew_1 H).mono ?_); clear H; rintro e w1 ⟨p, F, rfl, H⟩; skip)))
        have e3 : ((0 : Int) == 0) = true := rfl
        have hC3 : Hid ((#[Value.string U1, .string ⟨#[]⟩, .string U2] : Array Value) = (([U1, ⟨#[]⟩, U2] : List ByteArray).map Value.string).toArray) := Lib.hid rfl
        have hn3 : Hid (([U1, ⟨#[]⟩, U2] : List ByteArray).length = 3) := Lib.hid rfl
        go_region_held3 (fun w' => Wider w9 w') (first | assumption | exact H.wider | exact (H.wider.alloc _).drew | exact H.wider.drew.alloc _)
          (first
            | (go_at_call 21; ((with_reducible refine (fed_litd (d := 0) H 9 #[.string U1, .string ⟨#[]⟩, .string U2] [U1, ⟨#[]⟩, U2] hC3.out hn3.out (by decide) hb3 hfd e6).mono ?_); clear H; rintro e w1 ⟨B3, c3, F3, rfl, H⟩; skip))
            | (go_at_call 21; ((with_reducible refine (fed_lit (d := 0) H 9 #[.string U1, .string ⟨#[]⟩, .string U2] [U1, ⟨#[]⟩, U2] hC3.out hn3.out (by decide) hb3 hfd e6).mono ?_); clear H; rintro e w1 ⟨B3, c3, F3, rfl, H⟩; skip)))
        all_goals
          go_wp2_with (first
            | (go_at_call 15; ((with_reducible refine (ksame_c _ _ N _ N _ m m _ H.drop.strs H.drop.drop.strs e6 e6 (by omega) (by omega) (iff_of_true rfl rfl)).mono ?_); rintro e w1 ⟨rfl, g⟩; replace H := H.quiet g; clear g))
            | (go_at_call 16; ((with_reducible refine (kwaits_b H.head hw0).mono ?_); rintro e w1 ⟨rfl, g⟩; replace H := H.quiet g; clear g))
            | (go_at_call 17; ((with_reducible refine (kclosed_a H.head).mono ?_); rintro e w1 ⟨rfl, g⟩; replace H := H.quiet g; clear g)))
          go_ret
          exact ⟨rfl, H.wider⟩
set_option maxRecDepth 100000 in
theorem chunkBack_lifted (os : Os) (started : os.Started) (H : Type) (enc : TypeId × Value → H) :
    ReturnsInHanded {} Try.checked os 7 .any (Rows.chunkBackSpec.pre6 enc Try.prog Try.f7 Rows.chunkBackRow.domain false) (Rows.chunkBackSpec.post enc Try.prog Try.f7 false true false false) := by
  refine returnsInHanded_of_change (C := Try.checked) own started (by kernel_rfl) Try.func7
    (ChangeSpec.witness6 (enc := enc) (C := Try.checked) false ⟨#[], #[.slice none 0 0, .int .i64 0], []⟩ 8 (by kernel_rfl) (by kernel_rfl) (by kernel_rfl) (by kernel_rfl)) ?_
  intro W base args ds gs before hval0 hW hcnd _
  have hval : ∀ (j : Nat) t v, Try.f7.params[j]? = some t → args[j]? = some v → Value.okWide Try.prog W .any base t v := hval0
  have hW' := hW
  obtain ⟨p, q, hA0, hV, rfl, hfz, hnd⟩ := hW
  have hA : DataW.TrodAll enc Try.prog W 0 (fun _ => true) true Try.f7.params.toList args.toList ds p := hA0
  rw [Try.params7] at hA hval
  obtain ⟨v0, vs0, d0, ds0, p0, q0, hargs, rfl, rfl, h0, r0⟩ := trodAll_cons hA
  obtain ⟨v1, vs1, d1, ds1, p1, q1, rfl, rfl, rfl, h1, r1⟩ := trodAll_cons r0
  obtain ⟨rfl, rfl, rfl⟩ := trodAll_nil r1
  obtain rfl : args = #[v0, v1] := by cases args; simp_all
  obtain ⟨rfl, rfl⟩ := trodVars_none hV
  have h0k := h0
  obtain ⟨A0, len0, cap0, rfl⟩ := okWide_slice Try.underlying29 (hval 0 29 v0 rfl rfl)
  obtain ⟨fuel0, hf0⟩ := h0
  obtain ⟨l0, hl0, ha0, hm0, hz0⟩ := open_strs Try.underlying29 Try.underlying9 (by kernel_rfl) hf0
  obtain ⟨n1, rfl, rfl, rfl, w1⟩ := open_int Try.underlying3 (hval 1 3 v1 rfl rfl) h1
  clear hA0 hval0
  simp only [List.append_nil] at hW'
  refine (chunkBack_walk W A0 len0 cap0 l0 hl0 ha0 hm0 hz0 n1 (bounds_i64 w1).1 (bounds_i64 w1).2).mono fun e W' ⟨he, hg⟩ => ?_
  subst he
  have hlt : ∀ x ∈ p0, x.block < W.heap.size := fun x hx => by simpa using hW'.lt x hx
  exact ⟨_, rfl, post_of_wider (pv := []) hW' (fun _ _ _ => (trodAll_cons_mk (shut_bool Try.underlying4 _) trodAll_mk0)) (fun sp hsp => (trodAll_cons_mk (WideElems.Trod_stays laid3 (by kernel_rfl) (of_decide_eq_true (by kernel_rfl)) h0k (fun x hx => wsame hg (hlt x (by simp [hx]))) (fun x hx => hsp x (by simp [hx]))) (trodAll_cons_mk (shut_int Try.underlying3 w1) trodAll_mk0))) (fun _ _ => rfl) (by simp)
    hg (ok_one (by kernel_rfl) rfl (okWide_bool_mk Try.underlying4 _))⟩

theorem chunkBack_holds : Rows.ChunkBackSaid :=
  OpenClaim.holds_of_wide 7 Try.f7 rfl rfl rfl rfl rfl rfl rfl ⟨rfl, rfl, rfl, rfl, rfl⟩ rfl rfl rfl rfl rfl (by kernel_rfl) Try.func7 (by kernel_rfl)
    (of_decide_eq_true (by kernel_rfl)) (by unfold Func.isWrapper; first | (rw [if_pos (by decide +kernel)]; kernel_rfl) | (rw [if_neg (by decide +kernel)]; exact ⟨rfl, rfl⟩))
    (fun os started H enc _ => chunkBack_lifted os started H enc)

#print axioms chunkBack_holds

end Go.Proofs.Ytcpjhgbbcfbnpaa
