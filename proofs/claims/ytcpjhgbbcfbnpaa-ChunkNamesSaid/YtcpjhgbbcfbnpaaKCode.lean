/- What the calls of package chunk do: by walks. -/
import Derived.Test.YtcpjhgbbcfbnpaaKCodeA
namespace Go.Proofs.Ytcpjhgbbcfbnpaa
set_option linter.unusedVariables false
open Go.ChangeShapes Go.WideShapes Go.ChangeAt Go.RowKit Go.Joins
open Go.ChangeMaps (open_string shut_string)

/-! ### A stream in memory -/
/-- What a state and the bytes that came are: the things that it holds. -/
inductive StK : Value → List UInt8 → List Thing → Prop
  | none : StK .nilFunc [] []
  | len (G : Nat) (B : Option Addr) (n c : Nat) (l : List UInt8) (hn : l.length = n) (h : n < 4) : StK (fLen G) l [blkT G #[.slice B n c] 46, rowT 5 1 (.slice B n c) n (cellsB l)]
  | body (G K N : Nat) (B : Option Addr) (n c : Nat) (x y z u : UInt8) (l : List UInt8) (hN : lenK x y z u = N) (hg : goodK N = true) (hn : l.length = n) (h : n < N) :
      StK (fBody G K) (x :: y :: z :: u :: l) [blkT G #[.slice B n c] 46, blkT K #[.int .i64 (N : Int)] 3, rowT 5 1 (.slice B n c) n (cellsB l)]
theorem StK.stable {f : Value} {r : List UInt8} {M : List Thing} (h : StK f r M) : ∀ t ∈ M, t.Stable := by
  cases h with
  | none => intro t m; cases m
  | len => intro t m; simp only [List.mem_cons, List.not_mem_nil, or_false] at m; rcases m with rfl | rfl; exact blk_stable _ _ _; exact rowT_stable _ _ _ _ _
  | body => intro t m; simp only [List.mem_cons, List.not_mem_nil, or_false] at m; rcases m with rfl | rfl | rfl; exact blk_stable _ _ _; exact blk_stable _ _ _; exact rowT_stable _ _ _ _ _
/-- The struct's three cells. -/
abbrev strC (f : Value) (x : StrK) : Array Value := #[f, .int .i64 (x.r.length : Int), .bool x.shut]
/-- The stream at p is x, and owns the blocks F. -/
def StrAt (w : World) (p : Addr) (x : StrK) (F : List Nat) : Prop :=
  ∃ A f M, p = ⟨A, 0, none⟩ ∧ F = A :: M.flatMap (·.1) ∧ StK f x.r M ∧ (x.shut = true → x.r = []) ∧ (∀ t ∈ blkT A (strC f x) 37 :: M, t.2 w) ∧ (blkT A (strC f x) 37 :: M).Pairwise fun r q => ∀ i ∈ r.1, i ∉ q.1
abbrev strT (p : Addr) (x : StrK) (F : List Nat) : Thing := (F, fun w => StrAt w p x F)
theorem strAt_stable (p : Addr) (x : StrK) (F : List Nat) : (strT p x F).Stable := by
  rintro W w ⟨A, f, M, rfl, rfl, hM, hs, h, ha⟩ k
  refine ⟨A, f, M, rfl, rfl, hM, hs, fun t m => ?_, ha⟩
  rcases List.mem_cons.1 m with rfl | m
  · exact blk_stable _ _ _ W w (h _ (.head _)) (fun i hi => k i (by simp only [List.mem_singleton] at hi; simp [hi]))
  · exact hM.stable t m W w (h t (.tail _ m)) (fun i hi => k i (List.mem_cons_of_mem _ (List.mem_flatMap.2 ⟨t, m, hi⟩)))
theorem StK.ok {f : Value} {r : List UInt8} {M : List Thing} (h : StK f r M) : feedK [] r = ([], r, false) := by
  cases h with
  | none => exact feedK_few _ _ (by simp)
  | len G B n c l hn h => exact feedK_few _ _ (by omega)
  | body G K N B n c x y z u l hN hg hn h => rw [feedK_some, hN, if_neg (by rw [hg]; decide), if_pos (by omega)]
theorem strAt_ok {w : World} {p : Addr} {x : StrK} {F : List Nat} (h : StrAt w p x F) : x.Ok := by
  obtain ⟨A, f, M, rfl, rfl, hM, hs, h, ha⟩ := h
  cases e : x.shut with
  | true => exact .inr ⟨e, hs e⟩
  | false => exact .inl ⟨e, hM.ok⟩
theorem Own.strOpen {V w : World} {L : List Thing} {p : Addr} {x : StrK} {F : List Nat} (H : Own V w (strT p x F :: L)) :
    ∃ A f M, p = ⟨A, 0, none⟩ ∧ StK f x.r M ∧ (x.shut = true → x.r = []) ∧ Own V w (blkT A (strC f x) 37 :: (M ++ L)) := by
  obtain ⟨A, f, M, rfl, rfl, hM, hs, h, ha⟩ := H.head
  refine ⟨A, f, M, rfl, hM, hs, ?_⟩
  refine H.split (M := blkT A (strC f x) 37 :: M) h (fun t m => ?_) (fun t m i hi => ?_) ha
  · rcases List.mem_cons.1 m with rfl | m
    · exact blk_stable _ _ _
    · exact hM.stable t m
  · rcases List.mem_cons.1 m with rfl | m
    · simp only [List.mem_singleton] at hi; simp [hi]
    · exact List.mem_cons_of_mem _ (List.mem_flatMap.2 ⟨t, m, hi⟩)
theorem Own.strShut {V w : World} {L : List Thing} {A : Nat} {f : Value} {x : StrK} {M : List Thing} (H : Own V w (blkT A (strC f x) 37 :: (M ++ L))) (hM : StK f x.r M) (hs : x.shut = true → x.r = []) :
    ∃ F, Own V w (strT ⟨A, 0, none⟩ x F :: L) := by
  refine ⟨A :: M.flatMap (·.1), Own.join (M := blkT A (strC f x) 37 :: M) H ?_ (strAt_stable _ _ _) fun i hi => ?_⟩
  · refine ⟨A, f, M, rfl, rfl, hM, hs, fun t m => H.holds t ?_, ?_⟩
    · rcases List.mem_cons.1 m with rfl | m
      · exact .head _
      · exact .tail _ (List.mem_append.2 (.inl m))
    · exact (List.pairwise_append.1 (show ((blkT A (strC f x) 37 :: M) ++ L).Pairwise _ from H.apart)).1
  · rcases List.mem_cons.1 hi with rfl | hi
    · exact ⟨_, .head _, by simp⟩
    · obtain ⟨t, m, hit⟩ := List.mem_flatMap.1 hi
      exact ⟨t, .tail _ m, hit⟩

/-! ### The small calls -/
/-- A zero Stream's cells. -/
abbrev zK : Array Value := #[.nilFunc, .int .i64 0, .bool false]
theorem kzero_a (w : World) : StrAt (w.alloc (.cells zK 37)) ⟨w.heap.size, 0, none⟩ StrK.new [w.heap.size] := by
  refine ⟨w.heap.size, .nilFunc, [], rfl, rfl, .none, fun e => rfl, fun t m => ?_, List.pairwise_singleton _ _⟩
  obtain rfl := List.mem_singleton.1 m
  exact heap_alloc_new w _
theorem knew_1 {V W : World} {L : List Thing} (H : Own V W L) : Calls Try.prog 13 #[] W fun e w' => ∃ p F, e = .returned (.pointer (some p)) ∧ Own V w' (strT p StrK.new F :: L) := by
  have H1 : Own V (W.alloc (.cells zK 37)) (strT ⟨W.heap.size, 0, none⟩ StrK.new [W.heap.size] :: L) :=
    H.make ((Wider.refl W).alloc _) (kzero_a W) (strAt_stable _ _ _) (fun i hi => by
      obtain rfl : i = W.heap.size := by simpa using hi
      simp)
  go_enter Try.func13, Try.ntmps13
  go_wp2
  go_ret
  exact ⟨_, _, rfl, H1⟩
theorem kwaits_a {w : World} {p : Addr} {x : StrK} {F : List Nat} (h : StrAt w p x F) :
    Calls Try.prog 16 #[.pointer (some p)] w fun e w' => e = .returned (.int .i64 (x.r.length : Int)) ∧ Wider w w' := by
  obtain ⟨A, f, M, rfl, rfl, hM, hs, h, ha⟩ := h
  have c1 := blk_cell (h _ (.head _)) 1 (v := .int .i64 (x.r.length : Int)) rfl
  clear h
  go_enter Try.func16, Try.ntmps16
  go_wp2
  go_ret
  exact ⟨rfl, Wider.refl w⟩
theorem kclosed_a {w : World} {p : Addr} {x : StrK} {F : List Nat} (h : StrAt w p x F) :
    Calls Try.prog 17 #[.pointer (some p)] w fun e w' => e = .returned (.bool x.shut) ∧ Wider w w' := by
  obtain ⟨A, f, M, rfl, rfl, hM, hs, h, ha⟩ := h
  have c1 := blk_cell (h _ (.head _)) 2 (v := .bool x.shut) rfl
  clear h
  go_enter Try.func17, Try.ntmps17
  go_wp2
  go_ret
  exact ⟨rfl, Wider.refl w⟩
theorem knil_feed (s : ByteArray) (w : World) : Calls Try.prog 14 #[.pointer none, .string s] w fun e w' => e = .returned (.tuple #[.slice none 0 0, .int .i64 2]) ∧ Wider w w' := by
  go_enter Try.func14, Try.ntmps14
  go_wp2
  go_ret2
  exact ⟨rfl, Wider.refl w⟩
theorem knil_waits (w : World) : Calls Try.prog 16 #[.pointer none] w fun e w' => e = .returned (.int .i64 0) ∧ Wider w w' := by
  go_enter Try.func16, Try.ntmps16
  go_wp2
  go_ret
  exact ⟨rfl, Wider.refl w⟩
theorem knil_closed (w : World) : Calls Try.prog 17 #[.pointer none] w fun e w' => e = .returned (.bool false) ∧ Wider w w' := by
  go_enter Try.func17, Try.ntmps17
  go_wp2
  go_ret
  exact ⟨rfl, Wider.refl w⟩

/-! ### A frame -/
theorem bytes4 (T : ByteArray) (n : Nat) (hn : n < 65536) (hT : strOfNums [(n : Int) / 16777216, (n : Int) / 65536, (n : Int) / 256, (n : Int) % 256] = T) : T.data.toList = 0 :: 0 :: wordB n := by
  rw [← hT, strOfNums_data]
  simp only [wordB, List.map_cons, List.map_nil]
  rw [show (n : Int) / 16777216 = 0 by omega, show (n : Int) / 65536 = 0 by omega]
  have a : ((n : Int) / 256).toNat = n / 256 := by omega
  have b : ((n : Int) % 256).toNat = n % 256 := by omega
  rw [a, b]; rfl
set_option maxHeartbeats 4000000 in
theorem kframe_a (s : ByteArray) (w : World) (hs : s.size < 1000000) {T : ByteArray} {r : Nat} (hr : framE s = r) (hT : framT s = T) :
    Calls Try.prog 11 #[.string s] w fun e w' => e = .returned (.tuple #[.string T, .int .i64 (r : Int)]) ∧ Wider w w' := by
  by_cases q : s.size < 5
  · have e1 : r = 4 := by rw [← hr]; unfold framE; rw [if_pos q]
    have e2 : T = ⟨#[]⟩ := by rw [← hT]; unfold framT framE; rw [if_pos q]; rfl
    subst e1 e2
    have d1 : decide ((s.size : Int) < 5) = true := decide_eq_true (by omega)
    have d2 : decide (s.size < 5) = true := decide_eq_true q
    clear hr hT
    go_enter Try.func11, Try.ntmps11
    go_wp2
    go_ret2
    exact ⟨rfl, Wider.refl w⟩
  · have d1 : decide ((s.size : Int) < 5) = false := decide_eq_false (by omega)
    have d2 : decide (s.size < 5) = false := decide_eq_false q
    by_cases q2 : 16384 < s.size
    · have e1 : r = 5 := by rw [← hr]; unfold framE; rw [if_neg q, if_pos q2]
      have e2 : T = ⟨#[]⟩ := by rw [← hT]; unfold framT framE; rw [if_neg q, if_pos q2]; rfl
      subst e1 e2
      have d3 : decide ((16384 : Int) < (s.size : Int)) = true := decide_eq_true (by omega)
      have d4 : decide (16384 < s.size) = true := decide_eq_true q2
      clear hr hT
      go_enter Try.func11, Try.ntmps11
      go_wp2
      go_ret2
      exact ⟨rfl, Wider.refl w⟩
    · have e1 : r = 0 := by rw [← hr]; unfold framE; rw [if_neg q, if_neg q2]
      have e2 : T = mkB (frameK s) := by rw [← hT]; unfold framT framE; rw [if_neg q, if_neg q2]; rfl
      subst e1 e2
      have d3 : decide ((16384 : Int) < (s.size : Int)) = false := decide_eq_false (by omega)
      have d4 : decide (16384 < s.size) = false := decide_eq_false q2
      obtain ⟨T0, hT0⟩ : ∃ T0, strOfNums [(s.size : Int) / 16777216, (s.size : Int) / 65536, (s.size : Int) / 256, (s.size : Int) % 256] = T0 := ⟨_, rfl⟩
      have hd := bytes4 T0 s.size (by omega) hT0
      have hz : T0.size = 4 := by rw [size_data, hd]; simp [wordB]
      have hcv : (convert 46 9 (.slice (some ⟨w.heap.size, 0, none⟩) 4 4)).run Try.prog (w.alloc (.cells #[.int .u8 ((s.size : Int) / 16777216), .int .u8 ((s.size : Int) / 65536), .int .u8 ((s.size : Int) / 256), .int .u8 ((s.size : Int) % 256)] 48)) =
          .ok (.string T0) (w.alloc (.cells #[.int .u8 ((s.size : Int) / 16777216), .int .u8 ((s.size : Int) / 65536), .int .u8 ((s.size : Int) / 256), .int .u8 ((s.size : Int) % 256)] 48)) := by
        have c := run_convert_bytes_arg (P := Try.prog) (w.alloc (.cells #[.int .u8 ((s.size : Int) / 16777216), .int .u8 ((s.size : Int) / 65536), .int .u8 ((s.size : Int) / 256), .int .u8 ((s.size : Int) % 256)] 48)) 46 5 Try.underlying46 Try.underlying5 w.heap.size 0 4 4 [(s.size : Int) / 16777216, (s.size : Int) / 65536, (s.size : Int) / 256, (s.size : Int) % 256] rfl (fun i hi => by
          rw [Nat.zero_add, World.cell?_alloc_new]
          match i, hi with
          | 0, _ => rfl
          | 1, _ => rfl
          | 2, _ => rfl
          | 3, _ => rfl
          | k + 4, h => omega) 9 Try.underlying9
        rw [hT0] at c
        exact c
      have fin : T0 ++ s = mkB (frameK s) := by
        apply ba_ext
        rw [ByteArray.data_append, Array.toList_append, hd, mkB_data]
        rfl
      have FIN := Lib.hid fin
      clear hr hT hT0 hd fin
      go_enter Try.func11, Try.ntmps11
      go_wp2
      refine wp_loop_rounds 5 ?_
      rw [rounds_succ]; go_wp2
      rw [rounds_succ]; go_wp2
      rw [rounds_succ]; go_wp2
      rw [rounds_succ]; go_wp2
      rw [rounds_succ]; go_wp2
      go_ret2
      exact ⟨by rw [FIN.out]; rfl, (Wider.refl w).alloc _⟩
end Go.Proofs.Ytcpjhgbbcfbnpaa
