/- Package exact: Keys: by a walk of its code. -/
import Derived.Test.YtgfdigjnecgliaaECodeF
import Derived.Sort.Row
import Derived.Sort.Grow
namespace Go.Proofs.Ytgfdigjnecgliaa
set_option linter.unusedVariables false
open Go.ChangeShapes Go.WideShapes Go.ChangeAt Go.RowKit Go.Joins
open Tab Go.Sort

/-- Texts, sorted. -/
def sortS (ks : List ByteArray) : List ByteArray := ((ks.map fun s => s.data.toList).mergeSort fun x y => decide (x ≤ y)).map mkB
theorem mkB_back (s : ByteArray) : mkB s.data.toList = s := by apply ba_ext; rw [mkB_data]
theorem sortS_perm (ks : List ByteArray) : (sortS ks).Perm ks := by
  have p := (List.mergeSort_perm (ks.map fun s => s.data.toList) fun x y => decide (x ≤ y)).map mkB
  have e : (ks.map fun s => s.data.toList).map mkB = ks := by
    rw [List.map_map]
    conv => rhs; rw [← List.map_id ks]
    exact List.map_congr_left fun s _ => mkB_back s
  rw [e] at p
  exact p
theorem sortS_length (ks : List ByteArray) : (sortS ks).length = ks.length := (sortS_perm ks).length_eq
theorem row_heap {w : World} {g n c : Nat} {ks : List ByteArray} (h : w.ownsRow 0 9 1 (.slice (some ⟨g, 0, none⟩) n c) n (cellsS ks)) : ∃ cur : Array Value, w.heap[g]? = some (.cells cur 9 (0, 0)) ∧ n ≤ c ∧ c ≤ maxLen ∧ cur.size = c ∧ cur.toList.take n = cellsS ks := by
  rcases h.2 with ⟨q, _⟩ | ⟨g2, cap, cur, q, hb, hg, h1, h2, h3, h4⟩
  · cases q
  · simp only [Value.slice.injEq, Option.some.injEq, Addr.mk.injEq, and_true, true_and] at q
    obtain ⟨rfl, rfl⟩ := q
    exact ⟨cur, hg, h1, h2, by simpa using h3, by simpa using h4⟩
theorem sorted_row {V w : World} {R : List Thing} {g n c : Nat} {ks : List ByteArray} (H : Own V w (rowT 9 1 (.slice (some ⟨g, 0, none⟩) n c) n (cellsS ks) :: R)) (hn : ks.length = n) (m : Nat) (os : Array Obj) :
    Own V (Go.Sort.grow (putRow encStr (Go.Sort.ahead w m) g 0 ((ks.map fun s => s.data.toList).mergeSort fun x y => decide (x ≤ y)).toArray) os) (rowT 9 1 (.slice (some ⟨g, 0, none⟩) n c) n (cellsS (sortS ks)) :: R) := by
  obtain ⟨cur, hg, h1, h2, h3, h4⟩ := row_heap H.head
  obtain ⟨arr, harr⟩ : ∃ arr, ((ks.map fun s => s.data.toList).mergeSort fun x y => decide (x ≤ y)) = arr := ⟨_, rfl⟩
  have hs : sortS ks = arr.map mkB := by rw [← harr]; rfl
  have hl : arr.length = n := by rw [← harr, List.length_mergeSort, List.length_map, hn]
  rw [hs, harr]
  have hlt : g < w.heap.size := (Array.getElem?_eq_some_iff.1 hg).1
  have heq : ∀ i, i < w.heap.size → (Go.Sort.grow (putRow encStr (Go.Sort.ahead w m) g 0 arr.toArray) os).heap[i]? = if g = i then some (.cells (putCells encStr 0 arr.toArray cur) 9 (0, 0)) else w.heap[i]? := fun i hi => by
    show ((w.heap.modify g (onCells (putCells encStr 0 arr.toArray))) ++ os)[i]? = _
    rw [Array.getElem?_append_left (by simpa using hi), Array.getElem?_modify]
    by_cases q : g = i
    · subst q; rw [if_pos rfl, if_pos rfl, hg]; rfl
    · rw [if_neg q, if_neg q]
  have hz : w.heap.size ≤ (Go.Sort.grow (putRow encStr (Go.Sort.ahead w m) g 0 arr.toArray) os).heap.size := by
    show _ ≤ ((w.heap.modify g _) ++ os).size
    simp
  have sz : (putCells encStr 0 arr.toArray cur).size = c := by unfold putCells; rw [Array.size_mapIdx, h3]
  refine H.turn (s := rowT 9 1 (.slice (some ⟨g, 0, none⟩) n c) n (cellsS (arr.map mkB))) ⟨rfl, rfl, hz, fun i hi hF => ?_⟩ ?_ (rowT_stable _ _ _ _ _) fun i hi => ?_
  · rw [heq i hi, if_neg (fun e => hF (by simp [Value.ownBlock, e]))]
  · refine ⟨by simp [cellsS, hl], .inr ⟨g, c, putCells encStr 0 arr.toArray cur, rfl, Nat.zero_le _, by rw [heq g hlt, if_pos rfl], h1, h2, by rw [sz, Nat.mul_one], ?_⟩⟩
    rw [Nat.mul_one]
    apply List.ext_getElem?
    intro i
    rw [List.getElem?_take]
    by_cases q : i < n
    · rw [if_pos q, Array.getElem?_toList, Array.getElem?_eq_getElem (by omega)]
      unfold putCells cellsS
      rw [Array.getElem_mapIdx, List.map_map, List.getElem?_map, List.getElem?_eq_getElem (by omega), if_pos ⟨Nat.zero_le _, by simpa using (by omega : i < 0 + arr.length)⟩]
      have e : (arr.toArray)[i - 0]! = arr[i]'(by omega) := by
        rw [Nat.sub_zero, getElem!_pos _ i (by simpa using (by omega : i < arr.length))]
        simp
      rw [e]
      rfl
    · rw [if_neg q, List.getElem?_eq_none (by simp [cellsS]; omega)]
  · obtain rfl : i = g := by simpa [Value.ownBlock] using hi
    exact ⟨.inl hi, Nat.lt_of_lt_of_le hlt hz⟩
theorem esort_1 {V w : World} {R : List Thing} {B : Option Addr} {n c : Nat} {ks : List ByteArray} (H : Own V w (rowT 9 1 (.slice B n c) n (cellsS ks) :: R)) (hn : ks.length = n) (hs : n < 1000000) :
    Calls Try.prog 25 #[.slice B n c] w fun e w' => e = .returned (.tuple #[]) ∧ Own V w' (rowT 9 1 (.slice B n c) n (cellsS (sortS ks)) :: R) := by
  have hh := H.head
  rcases hh.2 with ⟨q, q2⟩ | ⟨g, cap, cur, q, hb, hg, r⟩
  · simp only [Value.slice.injEq] at q
    obtain ⟨rfl, rfl, rfl⟩ := q
    obtain rfl : ks = [] := List.eq_nil_of_length_eq_zero hn
    exact (Try.slices_Sort_string_none none 0 w).mono fun e w' ⟨h1, h2⟩ => ⟨h1, by subst h2; have e : sortS [] = [] := by simp [sortS]
                                                                                   rw [e]; exact H⟩
  · simp only [Value.slice.injEq] at q
    obtain ⟨rfl, _, rfl⟩ := q
    have z := Try.slices_Sort_string g 0 c (ks.map fun s => s.data.toList) w (fun j hj => by
      have hj2 : j < ks.length := by simpa using hj
      rw [Nat.zero_add]
      refine ⟨?_, by simp [World.frozen?, hg]⟩
      have q := hh.cells (g := g) rfl j (.string ks[j]) (by simp [cellsS, hj2])
      rw [Addr.add_lit, Nat.zero_add] at q
      rw [q, getElem!_pos _ j (by simpa using hj2)]
      simp [encStr]) (Array.getElem?_eq_some_iff.1 hg).1 (by rw [List.length_map]; omega)
    rw [List.length_map, hn] at z
    refine z.mono fun e w' ⟨h1, m, os, h2⟩ => ⟨h1, ?_⟩
    rw [h2]
    exact sorted_row H hn m os

/-- Where the loop over the slots stands. -/
def KeysAt (V wr : World) (R : List Thing) (A B n c : Nat) (L : SlotsE) (j : Nat) (x : Value) : Prop :=
  ∃ (S : Option Addr) (k cap : Nat), x = .slice S k cap ∧ (keysOf (L.take j)).length = k ∧ Own V wr (rowT 9 1 (.slice S k cap) k (cellsS (keysOf (L.take j))) :: blkM A B n c :: blkE B L :: R)
set_option maxHeartbeats 8000000 in
theorem ekeys_1 {V w : World} {R : List Thing} {p : Addr} {L : SlotsE} {F : List Nat} (H : Own V w (mapT p L F :: R)) (g : GoodE L) (hl : L.length < 400000) :
    Calls Try.prog 15 #[.pointer (some p)] w fun e w' => ∃ S cap ks G, e = .returned (.slice S (cnt L) cap) ∧ KeysE L ks ∧ Own V w' (rowT 9 1 (.slice S (cnt L) cap) (cnt L) (cellsS ks) :: mapT p L G :: R) := by
  obtain ⟨A, B, rfl, H1⟩ := H.mapOpen
  obtain ⟨n, hn⟩ : ∃ n, L.length = n := ⟨_, rfl⟩
  obtain ⟨c, hc⟩ : ∃ c, cnt L = c := ⟨_, rfl⟩
  rw [hn, hc] at H1
  rw [hn] at hl
  have cl := cnt_le L
  have c10 : c ≤ n := by omega
  have k0 := blk_cell H1.head 0 (v := .slice (some ⟨B, 0, none⟩) n n) rfl
  have HN := Lib.hid hn
  have HC := Lib.hid hc
  have HG := Lib.hid g
  have HS : Hid (KeysAt V w R A B n c L 0 (.slice none 0 0)) := by exact ⟨none, 0, 0, rfl, rfl, H1.row (Wider.refl _) (World.ownsRow_nil _ _ _ _)⟩
  obtain ⟨i0, hi, hz0, hz1, hz2⟩ := info_parts infoStr
  clear H H1 hn g cl
  rw [hc]
  clear hc
  go_enter Try.func15, Try.ntmps15
  go_wp2
  go_loopw [3, 13] (fun x i wr => ∃ j : Nat, j ≤ n ∧ i = .int .i64 (j : Int) ∧ KeysAt V wr R A B n c L j x) (fun _ i _ => n - (intOf i).toNat)
  case atStart => exact ⟨0, by omega, by simp, HS.out⟩
  case round =>
    clear HS k0
    obtain ⟨j, hj, rfl, S, k, cap, rfl, hk, H⟩ := hrel
    have j0 : (0 : Int) ≤ (j : Int) := by omega
    by_cases q : j < n
    · have j1 : (j : Int) < (n : Int) := by omega
      have jL : j < L.length := by rw [HN.out]; exact q
      obtain ⟨x, hx⟩ : ∃ x, tk L j = x := ⟨_, rfl⟩
      obtain ⟨c0, c1, c2⟩ := slot_cells H.drop.drop.head jL hx
      have HX := Lib.hid (take_slot jL hx)
      have HK := Lib.hid hk
      cases x with
      | none =>
        have H2 := H.blk #[.string (keyO none), .int .i64 (numO none), .bool false] 47
        simp only [Option.isSome_none] at c2
        have e1 : Hid (keysOf (L.take (j + 1)) = keysOf (L.take j)) := by show _ = _; rw [HX.out, keysOf_append]; exact List.append_nil _
        clear hx hk
        go_wp2
        go_roundw
        case rel => exact ⟨j + 1, by omega, by go_num, S, k, cap, rfl, by rw [e1.out]; exact HK.out, by rw [e1.out]; exact H2.drop⟩
        case measure => simp [intOf]; omega
      | some y =>
        obtain ⟨s, v⟩ := y
        have kz := HG.out.keys s v ⟨j, hx⟩
        have H2 := H.blk #[.string s, .int .i64 v, .bool true] 47
        have e1 : Hid (keysOf (L.take (j + 1)) = keysOf (L.take j) ++ [s]) := by show _ = _; rw [HX.out, keysOf_append]; rfl
        have kj : k ≤ j := by
          rw [← hk, keysOf_length]
          have := cnt_le (L.take j)
          have := List.length_take_le j L
          omega
        have SN := Lib.hid (cellsS_snoc (keysOf (L.take j)) s).symm
        have S3 : Hid (k + 1 ≤ maxLen) := by show _ ≤ maxLen; unfold maxLen; omega
        have S4 : Hid ((k + 1) * 16 ≤ 140737488355328) := by show _ ≤ _; omega
        simp only [Option.isSome_some, keyO, numO] at c0 c1 c2
        have H2 := Lib.hid H2
        clear hx hk H
        go_wp2_with (first
          | (at_builtin; refine wpList_append_thing rfl (.tmp 19) (.tmp 23) 32 rfl 9 i0 (.string ⟨#[]⟩) 1 16 Try.underlying32 hi hz0 hz1 hz2 rfl (by decide) (.slice S k cap) k (cellsS (keysOf (L.take j))) rfl HA.out (some ⟨w2.heap.size, 0, none⟩) 1 1 [.string s] rfl rfl (fun e => by cases e) (fun a e => by cases e; exact LI.out.1) LI.out.2 S3.out S4.out rfl SN.out ?_; intro B3 c3 w5 H5)
          | (go_at_call 23; ((with_reducible refine (eclone_c s kz _).mono ?_); rintro e w2 ⟨rfl, g2⟩; have HA := Lib.hid (((H2.out.quiet g2).drop).quiet ((Wider.refl _).alloc (.cells #[.string s] 9))); have LI := Lib.hid (lies1 w2 (.string s) 9 rfl); clear g2)))
        go_roundw
        case rel => exact ⟨j + 1, by omega, by go_num, B3, k + 1, c3, rfl, by rw [e1.out]; simp [HK.out], by rw [e1.out]; exact H5⟩
        case measure => simp [intOf]; omega
    · obtain rfl : j = n := by omega
      have e1 : L.take j = L := List.take_of_length_le (by rw [HN.out]; exact Nat.le_refl _)
      rw [e1] at hk H
      obtain rfl : k = c := by rw [← hk, keysOf_length]; exact HC.out
      have zs := esort_1 H hk (by omega)
      have i1 : ¬ (j : Int) < (j : Int) := by omega
      clear e1 hk H
      go_wp2_with (first
        | (go_at_call 25; ((with_reducible refine zs.mono ?_); rintro e w2 ⟨rfl, H2⟩)))
      go_ret
      obtain ⟨G, H3⟩ := H2.third.third.mapShut HN.out HC.out
      exact ⟨_, _, _, _, rfl, keysE_of HG.out (sortS_perm _), H3.swap⟩
end Go.Proofs.Ytgfdigjnecgliaa
