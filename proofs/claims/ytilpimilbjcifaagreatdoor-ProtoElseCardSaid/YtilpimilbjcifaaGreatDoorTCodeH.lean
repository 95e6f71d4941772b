/- Texts that belong together, one behind the other: TCodeC TCodeD TCodeE TCodeF TCode. -/
import Derived.Test.YtilpimilbjcifaaGreatDoorTCodeG
import Derived.Test.YtilpimilbjcifaaGreatDoorShelf
import Derived.Lib.BitFns
import Derived.Defers
import Derived.Recover
import Derived.Test.YtilpimilbjcifaaGreatDoorRowsG

/- What the code of package tlv does: Num and ReadNum: by walks. -/
namespace Go.Proofs.YtilpimilbjcifaaGreatDoor
set_option linter.unusedVariables false
set_option maxRecDepth 20000
open Go.ChangeShapes Go.WideShapes Go.ChangeAt Go.RowKit Go.Joins
open Go.ChangeMaps (open_string shut_string)

theorem numB_bits (n : Nat) (h : n < 18446744073709551616) : (Lib.bitLen n + 7) / 8 = (numB n).length := by
  induction n using Nat.strongRecOn with
  | ind n ih =>
    by_cases z : n = 0
    · subst z; rw [numB_0]; rfl
    · rw [numB_pos n z, List.length_append, List.length_singleton]
      by_cases c : n < 256
      · have e : n / 256 = 0 := by omega
        have l8 := Lib.bitLen_le8 ⟨n, c⟩
        have l1 := Lib.bitLen_half n z (by omega)
        simp only at l8
        rw [e, numB_0, List.length_nil]; omega
      · have l := Lib.bitLen_shift8 n (by omega) h
        have q := ih (n / 256) (by omega) (by omega)
        rw [l]; omega
/-- The byte at place p of k. -/
def digB (n k p : Nat) : Nat := n / 256 ^ (k - 1 - p) % 256
theorem numB_digs (k n : Nat) (h : (numB n).length = k) : numB n = (List.range k).map fun p => UInt8.ofNat (digB n k p) := by
  induction k generalizing n with
  | zero => rw [List.eq_nil_of_length_eq_zero h]; rfl
  | succ k ih =>
    by_cases z : n = 0
    · subst z; rw [numB_0] at h; simp at h
    · rw [numB_pos n z] at h ⊢
      rw [List.length_append, List.length_singleton] at h
      rw [List.range_succ, List.map_append, ih (n / 256) (by omega)]
      congr 1
      · apply List.map_congr_left
        intro p hp
        have hp' : p < k := by simpa using hp
        show UInt8.ofNat (digB (n / 256) k p) = UInt8.ofNat (digB n (k + 1) p)
        have e : k + 1 - 1 - p = (k - 1 - p) + 1 := by omega
        unfold digB
        rw [e, Nat.pow_succ, Nat.mul_comm, ← Nat.div_div_eq_div_mul]
      · simp [digB]
theorem numB_text (n k : Nat) (h : (numB n).length = k) : strOfNums ((List.range k).map fun p => ((digB n k p : Nat) : Int)) = mkB (numB n) := by
  apply ba_ext
  rw [strOfNums_data, mkB_data, numB_digs k n h, List.map_map]
  rfl
set_option maxHeartbeats 4000000 in
theorem tnum_a (n : Nat) (w : World) (h : n < 18446744073709551616) {T : ByteArray} (hT : mkB (numB n) = T) :
    Calls Tryz.prog 110 #[.int .u64 (n : Int)] w fun e w' => e = .returned (.string T) ∧ Wider w w' := by
  have hb := fun W : World => Tryz.bits_Len64 (n : Int) W (by omega) (by omega)
  simp only [Int.toNat_natCast] at hb
  obtain ⟨k, hk⟩ : ∃ k, (numB n).length = k := ⟨_, rfl⟩
  have k8 : k ≤ 8 := by rw [← hk]; exact numB_len n h
  have e0 := numB_bits n h
  obtain ⟨b, hbl⟩ : ∃ b, Lib.bitLen n = b := ⟨_, rfl⟩
  rw [hk, hbl] at e0
  rw [hbl] at hb
  have b64 : b ≤ 71 := by omega
  have m1 : ((b : Int) + 8 - 1) / 8 = (k : Int) := by omega
  have hmk := makeN k (by omega)
  have hw : Bts (w.alloc (.cells (zerosN k) 5)) w.heap.size k (fun _ => 0) := Bts.made w k
  have HK := Lib.hid hk
  have HT := Lib.hid hT
  clear hbl e0 hk hT
  go_enter Tryz.func110, Tryz.ntmps110
  go_wp2_with (go_at_call 156; ((with_reducible refine (hb _).mono ?_); rintro e w2 ⟨rfl, rfl⟩))
  go_wp2
  obtain ⟨w1, hw1⟩ : ∃ w1, w2.alloc (.cells (zerosN k) 5) = w1 := ⟨_, rfl⟩
  have G1 := (Wider.refl w2).alloc (.cells (zerosN k) 5)
  rw [hw1] at hw G1 ⊢
  obtain ⟨B, hB⟩ : ∃ B, w2.heap.size = B := ⟨_, rfl⟩
  have HB : Hid (w2.heap.size ≤ B) := by show _ ≤ _; omega
  rw [hB] at hw ⊢
  clear hw1 hB
  go_loopw [0, 4] (fun v i wr => ∃ j : Nat, j ≤ k ∧ i = .int .i64 ((k : Int) - 1 - (j : Int)) ∧ (∃ m : Nat, v = .int .u64 (m : Int) ∧ n / 256 ^ j = m) ∧ Bts wr B k (fun p => if p < k - j then 0 else ((digB n k p : Nat) : Int)) ∧ Wider w2 wr) (fun _ i _ => (intOf i + 1).toNat)
  case atStart => exact ⟨0, by omega, by simp, ⟨n, rfl, by simp⟩, hw.congr fun p hp => by rw [if_pos (by omega)], G1⟩
  case round =>
    obtain ⟨j, hj, rfl, ⟨m, rfl, hm⟩, hO, hg⟩ := hrel
    have HM := Lib.hid hm
    clear hm hw
    by_cases c : j < k
    · have i0 : (0 : Int) ≤ (k : Int) - 1 - (j : Int) := by omega
      have i1 : (k : Int) - 1 - (j : Int) < (k : Int) := by omega
      obtain ⟨p, hp⟩ : ∃ p : Nat, (k : Int) - 1 - (j : Int) = (p : Int) := ⟨k - 1 - j, by omega⟩
      have HP := Lib.hid hp
      rw [hp] at i0 i1 ⊢
      clear hp
      have p1 : p < k := by omega
      have d0 := hO.cell p p1
      have d1 := hO.free p p1
      have m64 : m < 18446744073709551616 := by rw [← HM.out]; exact Nat.lt_of_le_of_lt (Nat.div_le_self _ _) h
      have NX : Hid (n / 256 ^ (j + 1) = m / 256) := by
        show _ = _
        rw [← HM.out, Nat.pow_succ, Nat.div_div_eq_div_mul]
      have hput : ∀ q, q < k → (if q < k - (j + 1) then (0 : Int) else ((digB n k q : Nat) : Int)) = if q = p then (m : Int) % 256 else if q < k - j then 0 else ((digB n k q : Nat) : Int) := by
        intro q hq
        have hpp := HP.out
        by_cases e : q = p
        · subst e
          rw [if_pos rfl, if_neg (by omega)]
          have e2 : k - 1 - q = j := by omega
          unfold digB
          rw [e2, HM.out]; omega
        · rw [if_neg e]
          by_cases e3 : q < k - (j + 1)
          · rw [if_pos e3, if_pos (by omega)]
          · rw [if_neg e3, if_neg (by omega)]
      have HPUT := Lib.hid hput
      have HO := Lib.hid hO
      clear hO hput
      go_wp2
      go_roundw
      case rel => exact ⟨j + 1, by omega, by (have := HP.out); congr 1; omega, ⟨m / 256, by congr 1, NX.out⟩, HO.out.put p1 HPUT.out, hg.setCell HB.out _⟩
      case measure => simp [intOf]
    · obtain rfl : j = k := by omega
      have e : (j : Int) - 1 - (j : Int) = -1 := by omega
      rw [e]
      have hcv := (hO.congr (u := fun p => ((digB n j p : Nat) : Int)) fun p hp => by rw [if_neg (by omega)]).conv j ((numB_text n j HK.out).trans HT.out)
      clear hO e
      go_wp2
      go_ret
      exact ⟨rfl, hg⟩

theorem rnum_long {l : List UInt8} {most v r : Nat} (hr : rnumN l most = (v, r)) (h : 8 < l.length ∨ l.head? = some 0) : v = 0 ∧ r = 3 := by
  unfold rnumN at hr
  rw [if_pos h] at hr
  injection hr with a b; exact ⟨a.symm, b.symm⟩
theorem rnum_over {l : List UInt8} {most v r : Nat} (hr : rnumN l most = (v, r)) (h : ¬ (8 < l.length ∨ l.head? = some 0)) : if most < readB l then v = 0 ∧ r = 3 else v = readB l ∧ r = 0 := by
  unfold rnumN at hr
  rw [if_neg h] at hr
  split at hr
  · injection hr with a b; rw [if_pos (by assumption)]; exact ⟨a.symm, b.symm⟩
  · injection hr with a b; rw [if_neg (by assumption)]; exact ⟨a.symm, b.symm⟩
set_option maxHeartbeats 4000000 in
theorem treadnum_a (s : ByteArray) (most : Nat) (w : World) (hs : s.size < 1000000) (hm : most < 18446744073709551616) {v r : Nat} (hr : rnumN s.data.toList most = (v, r)) :
    Calls Tryz.prog 122 #[.string s, .int .u64 (most : Int)] w fun e w' => e = .returned (.tuple #[.int .u64 (v : Int), .int .i64 (r : Int)]) ∧ Wider w w' := by
  have rest : ∀ (hz : s.size ≤ 8) (h : ¬ (8 < s.data.toList.length ∨ s.data.toList.head? = some 0)) {n : Nat}, readB s.data.toList = n → if most < n then v = 0 ∧ r = 3 else v = n ∧ r = 0 := fun hz h n e => e ▸ rnum_over hr h
  by_cases z8 : 8 < s.size
  · obtain ⟨rfl, rfl⟩ := rnum_long hr (.inl (by rw [← size_data]; exact z8))
    have f1 : decide ((8 : Int) < (s.size : Int)) = true := decide_eq_true (by omega)
    have f2 : decide (8 < s.size) = true := decide_eq_true z8
    clear rest hr
    go_enter Tryz.func122, Tryz.ntmps122
    go_wp2
    go_ret2
    exact ⟨rfl, Wider.refl w⟩
  · have f1 : decide ((8 : Int) < (s.size : Int)) = false := decide_eq_false (by omega)
    have f2 : decide (8 < s.size) = false := decide_eq_false z8
    obtain ⟨n, hn⟩ : ∃ n, readB s.data.toList = n := ⟨_, rfl⟩
    have zn := fun W : World => tnumber_c s (by omega) hn W
    by_cases z0 : s.size = 0
    · have t0 : s.data.toList = [] := List.eq_nil_of_length_eq_zero (by rw [← size_data]; exact z0)
      have s2 : s.toList.isEmpty = true := by rw [ByteArray.toList_eq, t0]; rfl
      have s3 : s.toList = [] := by rw [ByteArray.toList_eq, t0]
      have e := rest (by omega) (by rw [t0]; simp) hn
      obtain rfl : n = 0 := by rw [← hn, t0]; rfl
      rw [if_neg (by omega)] at e
      obtain ⟨rfl, rfl⟩ := e
      have f3 : decide ((most : Int) < 0) = false := decide_eq_false (by omega)
      clear rest hr hn t0 z0
      go_enter Tryz.func122, Tryz.ntmps122
      go_wp2_with (go_at_call 158; ((with_reducible refine (zn _).mono ?_); rintro e w2 ⟨rfl, g⟩))
      go_ret2
      exact ⟨rfl, g⟩
    · have s1 := ne_empty s z0
      have s2 := s1.1
      have s3 := s1.2
      have g0 : 0 < s.size := by omega
      have i0 : (0 : Int) < (s.size : Int) := by omega
      obtain ⟨b, l, hl⟩ : ∃ b l, s.data.toList = b :: l := by
        cases q : s.data.toList with
        | nil => exact absurd (by rw [size_data, q]; rfl) z0
        | cons b l => exact ⟨b, l, rfl⟩
      have e0 : s[0].toNat = b.toNat := by
        have : s.data.toList[0]'(by rw [hl]; simp) = b := by simp [hl]
        rw [← this]; rfl
      by_cases b0 : b = 0
      · subst b0
        obtain ⟨rfl, rfl⟩ := rnum_long hr (.inr (by rw [hl]; rfl))
        have f3 : ((s[0].toNat : Int) == 0) = true := by rw [beq_iff_eq, e0]; rfl
        have f4 : s[0].toNat = 0 := by rw [e0]; rfl
        clear rest hr hn s1 hl e0
        go_enter Tryz.func122, Tryz.ntmps122
        go_wp2
        go_ret2
        exact ⟨rfl, Wider.refl w⟩
      · have bn : b.toNat ≠ 0 := fun q => b0 (UInt8.toNat_inj.1 q)
        have f3 : ((s[0].toNat : Int) == 0) = false := by rw [beq_eq_false_iff_ne, e0]; omega
        have f4 : ¬ s[0].toNat = 0 := by rw [e0]; exact bn
        have e := rest (by omega) (by
          rw [hl]; simp only [List.head?_cons, Option.some.injEq]
          rintro (q | q)
          · rw [← hl, ← size_data] at q; omega
          · exact b0 q) hn
        clear rest hr s1 hl e0
        by_cases q : most < n
        · rw [if_pos q] at e
          obtain ⟨rfl, rfl⟩ := e
          have f5 : decide ((most : Int) < (n : Int)) = true := decide_eq_true (by omega)
          have f6 : decide (most < n) = true := decide_eq_true q
          clear hn
          go_enter Tryz.func122, Tryz.ntmps122
          go_wp2_with (go_at_call 158; ((with_reducible refine (zn _).mono ?_); rintro e w2 ⟨rfl, g⟩))
          go_ret2
          exact ⟨rfl, g⟩
        · rw [if_neg q] at e
          obtain ⟨rfl, rfl⟩ := e
          have f5 : decide ((most : Int) < (v : Int)) = false := decide_eq_false (by omega)
          have f6 : decide (most < v) = false := decide_eq_false q
          clear hn
          go_enter Tryz.func122, Tryz.ntmps122
          go_wp2_with (go_at_call 158; ((with_reducible refine (zn _).mono ?_); rintro e w2 ⟨rfl, g⟩))
          go_ret2
          exact ⟨rfl, g⟩
end Go.Proofs.YtilpimilbjcifaaGreatDoor

/- What the code of package tlv does: its reader: by walks. -/
namespace Go.Proofs.YtilpimilbjcifaaGreatDoor
set_option linter.unusedVariables false
set_option maxRecDepth 20000
open Go.ChangeShapes Go.WideShapes Go.ChangeAt Go.RowKit Go.Joins
open Go.ChangeMaps (open_string shut_string)

/-- A reader whose struct lies in block b, and what is left of its bytes in block B, from off on. -/
structure RdIn (w : World) (b B off cap : Nat) (s : ByteArray) : Prop where
  ne : b ≠ B
  room : s.size ≤ cap
  cell : w.cell? ⟨b, 0, none⟩ = some (.slice (some ⟨B, off, none⟩) s.size cap)
  free : w.frozen? ⟨b, 0, none⟩ = false
  row : ∀ j, j < s.size → w.cell? ⟨B, off + j, none⟩ = some (.int .u8 ((s.data.toList.getD j 0).toNat : Int))
  lt : b < w.heap.size ∧ B < w.heap.size
theorem RdIn.heap {W w : World} {b B off cap : Nat} {s : ByteArray} (h : RdIn W b B off cap s) (h1 : w.heap[b]? = W.heap[b]?) (h2 : w.heap[B]? = W.heap[B]?) : RdIn w b B off cap s where
  ne := h.ne
  room := h.room
  cell := (cell_heap h1).trans h.cell
  free := (frozen_heap h1).trans h.free
  row := fun j hj => (cell_heap h2).trans (h.row j hj)
  lt := by
    have k1 : W.heap[b]? ≠ none := by have := h.lt.1; simp; omega
    have k2 : W.heap[B]? ≠ none := by have := h.lt.2; simp; omega
    rw [← h1] at k1; rw [← h2] at k2
    simp at k1 k2; omega
/-- The reader at p has the bytes s left, and owns the blocks F. -/
def RdAt (w : World) (p : Addr) (s : ByteArray) (F : List Nat) : Prop := ∃ b B off cap, p = ⟨b, 0, none⟩ ∧ F = [b, B] ∧ RdIn w b B off cap s
abbrev rdT (p : Addr) (s : ByteArray) (F : List Nat) : Thing := (F, fun w => RdAt w p s F)
theorem rdAt_stable (p : Addr) (s : ByteArray) (F : List Nat) : (rdT p s F).Stable := by
  rintro W w ⟨b, B, off, cap, rfl, rfl, h⟩ k
  exact ⟨b, B, off, cap, rfl, rfl, h.heap (k b (by simp)) (k B (by simp))⟩
theorem rd_conv {w : World} {b B off cap : Nat} {s : ByteArray} (h : RdIn w b B off cap s) (n c : Nat) (hn : n ≤ s.size) :
    (convert 24 9 (.slice (some ⟨B, off, none⟩) n c)).run Tryz.prog w = .ok (.string (s.extract 0 n)) w := by
  have q := run_convert_bytes_arg (P := Tryz.prog) w 24 5 Tryz.underlying24 Tryz.underlying5 B off n c ((s.data.toList.take n).map fun b => (b.toNat : Int)) (by rw [List.length_map, List.length_take, ← size_data]; omega) (fun i hi => by
    rw [h.row i (by omega), List.getD_eq_getElem?_getD, List.getElem?_eq_getElem (by rw [← size_data]; omega), List.getD_eq_getElem?_getD (l := List.map _ _), List.getElem?_map, List.getElem?_take_of_lt hi, List.getElem?_eq_getElem (by rw [← size_data]; omega)]; rfl) 9 Tryz.underlying9
  rw [nums_mkB] at q
  have e : mkB (s.data.toList.take n) = s.extract 0 n := by apply ba_ext; rw [mkB_data, extract_list]; rfl
  rw [e] at q
  exact q
theorem getD_extract (s : ByteArray) (n j : Nat) (h : n + j < s.size) : (s.extract n s.size).data.toList.getD j 0 = s.data.toList.getD (n + j) 0 := by
  rw [extract_list, List.take_of_length_le (by rw [← size_data]; exact Nat.le_refl _), List.getD_eq_getElem?_getD, List.getD_eq_getElem?_getD, List.getElem?_drop]
theorem extract_size (s : ByteArray) (n : Nat) : (s.extract n s.size).size = s.size - n := by
  rw [size_data, extract_list, List.take_of_length_le (by rw [← size_data]; exact Nat.le_refl _), List.length_drop, ← size_data]
theorem tnewr_a (s : ByteArray) (w : World) :
    Calls Tryz.prog 77 #[.string s] w fun e w' => ∃ p F, e = .returned (.pointer (some p)) ∧ Wider w w' ∧ RdAt w' p s F ∧ ∀ i ∈ F, w.heap.size ≤ i ∧ i < w'.heap.size := by
  have hcv := run_bytes_of_string (P := Tryz.prog) w 9 24 5 s Tryz.underlying9 Tryz.underlying24 Tryz.underlying5
  obtain ⟨cap, hcap⟩ : ∃ c : Nat, grownCap w s.size 0 5 = c := ⟨_, rfl⟩
  have hge := grownCap_ge w s.size 0 5
  rw [hcap] at hcv hge
  have hr := Bts.text w s cap 5
  go_enter Tryz.func77, Tryz.ntmps77
  go_wp2
  go_ret
  have hB : (w.alloc (.cells (bytesRow s cap) 5 ((bytesRow s cap).size, (bytesRow s cap).size + 1))).heap.size = w.heap.size + 1 := by simp
  have n1 := World.cell?_alloc_new (w.alloc (.cells (bytesRow s cap) 5 ((bytesRow s cap).size, (bytesRow s cap).size + 1))) #[.slice (some ⟨w.heap.size, 0, none⟩) s.size cap] 169 0
  have n2 : ((w.alloc (.cells (bytesRow s cap) 5 ((bytesRow s cap).size, (bytesRow s cap).size + 1))).alloc (.cells #[.slice (some ⟨w.heap.size, 0, none⟩) s.size cap] 169)).frozen? ⟨(w.alloc (.cells (bytesRow s cap) 5 ((bytesRow s cap).size, (bytesRow s cap).size + 1))).heap.size, 0, none⟩ = false := by simp [go_sem]
  rw [hB] at n1 n2
  have row := hr.on ((Wider.refl _).alloc (.cells #[.slice (some ⟨w.heap.size, 0, none⟩) s.size cap] 169))
  refine ⟨⟨w.heap.size + 1, 0, none⟩, [w.heap.size + 1, w.heap.size], rfl, ((Wider.refl w).alloc _).alloc _, ⟨w.heap.size + 1, w.heap.size, 0, cap, rfl, rfl, ⟨by omega, hge, n1, n2, fun j hj => ?_, by simp; omega⟩⟩, by simp; omega⟩
  rw [Nat.zero_add]; exact row.cell j hj
theorem tmore_a {w : World} {p : Addr} {s : ByteArray} {F : List Nat} (h : RdAt w p s F) {b : Bool} (hb : decide (0 < s.size) = b) :
    Calls Tryz.prog 78 #[.pointer (some p)] w fun e w' => e = .returned (.bool b) ∧ w' = w := by
  obtain ⟨b0, B, off, cap, rfl, rfl, h⟩ := h
  have c := h.cell
  have d1 : decide ((0 : Int) < (s.size : Int)) = b := by rw [← hb]; simp
  go_enter Tryz.func78, Tryz.ntmps78
  go_wp2
  go_ret
  first | exact ⟨by rw [hb], rfl⟩ | exact ⟨by rw [d1], rfl⟩ | exact ⟨rfl, rfl⟩
/-- What is thrown. -/
abbrev thrown (c : Nat) : List PanicEntry := [{ v := .iface 53 (.int .i64 (c : Int)), recovered := false }]
theorem ttake_p {w : World} {p : Addr} {s : ByteArray} {F : List Nat} (h : RdAt w p s F) (n : Nat) (hn : s.size < n) (hn2 : n < 1000000) :
    Calls Tryz.prog 120 #[.pointer (some p), .int .i64 (n : Int)] w fun e w' => e = .panicked (thrown 4) ∧ Wider w w' := by
  obtain ⟨b0, B, off, cap, rfl, rfl, h⟩ := h
  have c := h.cell
  have d1 : decide ((s.size : Int) < (n : Int)) = true := decide_eq_true (by omega)
  have d2 : decide (s.size < n) = true := decide_eq_true hn
  go_enter Tryz.func120, Tryz.ntmps120
  go_wp2
  simp [bodyPost]
  exact Wider.refl w
/-- What is left, behind n bytes. -/
theorem rd_next {w : World} {b B off cap : Nat} {s : ByteArray} (h : RdIn w b B off cap s) (n off2 cap2 : Nat) (hn : n ≤ s.size) (ho : n < s.size → off2 = off + n) (hc : s.size - n ≤ cap2) {Y : ByteArray} (hY : s.extract n s.size = Y) :
    WBut [b, B] w (w.setCell ⟨b, 0, none⟩ (.slice (some ⟨B, off2, none⟩) (s.size - n) cap2)) ∧ RdAt (w.setCell ⟨b, 0, none⟩ (.slice (some ⟨B, off2, none⟩) (s.size - n) cap2)) ⟨b, 0, none⟩ Y [b, B] := by
  have hz : Y.size = s.size - n := by rw [← hY, extract_size]
  have k := setCell_but w ⟨b, 0, none⟩ (.slice (some ⟨B, off2, none⟩) (s.size - n) cap2)
  have sz : (w.setCell ⟨b, 0, none⟩ (.slice (some ⟨B, off2, none⟩) (s.size - n) cap2)).heap.size = w.heap.size := by simp [World.setCell]
  refine ⟨⟨k.os, k.out, k.size, fun i hi hF => k.heap i hi (fun m => hF (by simp only [List.mem_cons, List.not_mem_nil, or_false] at m ⊢; exact .inl m))⟩, b, B, off2, cap2, rfl, rfl, h.ne, by omega, ?_, (World.frozen?_setCell _ _ _ _).trans h.free, fun j hj => ?_, by rw [sz]; exact h.lt⟩
  · rw [hz]; exact csame h.cell
  · rw [cother (by intro q; injection q with q1; exact h.ne q1)]
    have o := ho (by omega)
    subst o
    rw [Nat.add_assoc, h.row (n + j) (by omega), ← hY, getD_extract s n j (by omega)]
theorem ttake_a {w : World} {p : Addr} {s : ByteArray} {F : List Nat} (h : RdAt w p s F) (n : Nat) (hn : n ≤ s.size) (hs : s.size < 1000000) {X Y : ByteArray} (hX : s.extract 0 n = X) (hY : s.extract n s.size = Y) :
    Calls Tryz.prog 120 #[.pointer (some p), .int .i64 (n : Int)] w fun e w' => e = .returned (.string X) ∧ WBut F w w' ∧ RdAt w' p Y F := by
  obtain ⟨b0, B, off, cap, rfl, rfl, h⟩ := h
  have c := h.cell
  have f := h.free
  have rm := h.room
  have hcv := rd_conv h n cap hn
  rw [hX] at hcv
  have i0 : (0 : Int) ≤ (n : Int) := by omega
  have i1 : (n : Int) ≤ (s.size : Int) := by omega
  have i2 : (n : Int) ≤ (cap : Int) := by omega
  have d1 : decide ((s.size : Int) < (n : Int)) = false := decide_eq_false (by omega)
  have d2 : decide (s.size < n) = false := decide_eq_false (by omega)
  by_cases q : cap = n
  · subst q
    have E := rd_next h cap off 0 hn (fun k => by omega) (by omega) hY
    rw [show s.size - cap = 0 by omega] at E
    have E2 := Lib.hid E
    clear E hX hY
    go_enter Tryz.func120, Tryz.ntmps120
    go_wp2
    go_ret
    exact ⟨rfl, E2.out⟩
  · have E2 := Lib.hid (rd_next h n (off + n) (cap - n) hn (fun _ => rfl) (by omega) hY)
    clear hX hY
    go_enter Tryz.func120, Tryz.ntmps120
    go_wp2
    go_ret
    exact ⟨rfl, E2.out⟩

/-! ### The reader beside other things -/
theorem ttake_o {V w : World} {L : List Thing} {p : Addr} {s : ByteArray} {F : List Nat} (H : Own V w (rdT p s F :: L)) (n : Nat) (hn : n ≤ s.size) (hs : s.size < 1000000) {X Y : ByteArray} (hX : s.extract 0 n = X) (hY : s.extract n s.size = Y) :
    Calls Tryz.prog 120 #[.pointer (some p), .int .i64 (n : Int)] w fun e w' => e = .returned (.string X) ∧ Own V w' (rdT p Y F :: L) :=
  (ttake_a H.head n hn hs hX hY).mono fun e w' ⟨he, hw, hr⟩ => ⟨he, H.turn hw hr (rdAt_stable _ _ _) fun i hi => ⟨.inl hi, Nat.lt_of_lt_of_le (H.new _ (.head _) i hi).2 hw.size⟩⟩
theorem ttake_q {V w : World} {L : List Thing} {p : Addr} {s : ByteArray} {F : List Nat} (H : Own V w (rdT p s F :: L)) (n : Nat) (hn : s.size < n) (hn2 : n < 1000000) :
    Calls Tryz.prog 120 #[.pointer (some p), .int .i64 (n : Int)] w fun e w' => e = .panicked (thrown 4) ∧ Own V w' (rdT p s F :: L) :=
  (ttake_p H.head n hn hn2).mono fun e w' ⟨he, hw⟩ => ⟨he, H.quiet hw⟩
theorem ttake_i {V w : World} {L : List Thing} {p : Addr} {s : ByteArray} {F : List Nat} (H : Own V w (rdT p s F :: L)) (n : Nat) (m : Int) (hm : m = (n : Int)) (hn : n ≤ s.size) (hs : s.size < 1000000) {X Y : ByteArray} (hX : s.extract 0 n = X) (hY : s.extract n s.size = Y) :
    Calls Tryz.prog 120 #[.pointer (some p), .int .i64 m] w fun e w' => e = .returned (.string X) ∧ Own V w' (rdT p Y F :: L) := by
  subst hm; exact ttake_o H n hn hs hX hY
theorem extract_two (s : ByteArray) (a b : UInt8) (r : List UInt8) (h : s.data.toList = a :: b :: r) : (s.extract 0 2).data.toList = [a, b] ∧ (s.extract 2 s.size).data.toList = r := by
  constructor
  · rw [extract_list, h]; rfl
  · rw [extract_list, List.take_of_length_le (by rw [← size_data]; exact Nat.le_refl _), h]; rfl
theorem readB_two (a b : UInt8) : readB [a, b] = unword a b := by unfold readB unword; simp
theorem tlen_o {V w : World} {L : List Thing} {p : Addr} {s : ByteArray} {F : List Nat} (H : Own V w (rdT p s F :: L)) (hs : s.size < 1000000) {a b : UInt8} {r : List UInt8} (hl : s.data.toList = a :: b :: r) {Y : ByteArray} (hY : s.extract 2 s.size = Y) {n : Nat} (hn : unword a b = n) :
    Calls Tryz.prog 121 #[.pointer (some p)] w fun e w' => e = .returned (.int .i64 (n : Int)) ∧ Own V w' (rdT p Y F :: L) := by
  obtain ⟨X, hX⟩ : ∃ X, s.extract 0 2 = X := ⟨_, rfl⟩
  have hz : 2 ≤ s.size := by rw [size_data, hl]; simp
  have hx := (extract_two s a b r hl).1
  rw [hX] at hx
  have hxs : X.size = 2 := by rw [size_data, hx]; rfl
  have z1 : Calls Tryz.prog 120 #[.pointer (some p), .int .i64 2] w _ := ttake_o H 2 hz hs hX hY
  have z2 := fun W : World => tnumber_c X (by omega) (n := n) (by rw [hx, readB_two, hn]) W
  have l := unword_lt a b
  rw [hn] at l
  have w1 : IntKind.i64.wrap (n : Int) = (n : Int) := by simp [IntKind.wrap, IntKind.bits, IntKind.signed]; omega
  clear hX hY hx hxs hn hl
  go_enter Tryz.func121, Tryz.ntmps121
  go_wp2_with (first
    | (go_at_call 120; ((with_reducible refine z1.mono ?_); rintro e w2 ⟨rfl, H2⟩))
    | (go_at_call 158; ((with_reducible refine (z2 _).mono ?_); rintro e w3 ⟨rfl, g3⟩)))
  go_ret
  exact ⟨rfl, H2.quiet g3⟩
theorem tlen_q {V w : World} {L : List Thing} {p : Addr} {s : ByteArray} {F : List Nat} (H : Own V w (rdT p s F :: L)) (hs : s.size < 2) :
    Calls Tryz.prog 121 #[.pointer (some p)] w fun e w' => e = .panicked (thrown 4) ∧ Own V w' (rdT p s F :: L) := by
  have z1 : Calls Tryz.prog 120 #[.pointer (some p), .int .i64 2] w _ := ttake_q H 2 hs (by omega)
  go_enter Tryz.func121, Tryz.ntmps121
  go_wp2_with (first
    | (go_at_call 120; ((with_reducible refine z1.mono ?_); rintro e w2 ⟨rfl, H2⟩)))
  simp [bodyPost]
  exact H2

/-! ### An item, and an attribute -/
theorem extract_tail (s : ByteArray) (k : Nat) : (s.extract k s.size).data.toList = s.data.toList.drop k := by
  rw [extract_list, List.take_of_length_le (by rw [← size_data]; exact Nat.le_refl _)]
theorem extract_more (s : ByteArray) (k n : Nat) (hk : k ≤ s.size) : (s.extract k s.size).extract 0 n = s.extract k (k + n) ∧ (s.extract k s.size).extract n (s.extract k s.size).size = s.extract (k + n) s.size := by
  constructor
  · apply ba_ext
    rw [extract_list (s.extract k s.size) 0 n, extract_tail, extract_list s k (k + n), List.drop_zero, List.drop_take, Nat.add_sub_cancel_left]
  · apply ba_ext
    rw [extract_tail, extract_tail, extract_tail, List.drop_drop]
set_option maxHeartbeats 2000000 in
theorem titem_o {V w : World} {L : List Thing} {p : Addr} {s : ByteArray} {F : List Nat} (H : Own V w (rdT p s F :: L)) (hs : s.size < 1000000) {a b : UInt8} {r : List UInt8} (hl : s.data.toList = a :: b :: r) {n : Nat} (hn : unword a b = n) (hr : n ≤ r.length)
    {X Y : ByteArray} (hX : s.extract 2 (2 + n) = X) (hY : s.extract (2 + n) s.size = Y) :
    Calls Tryz.prog 160 #[.pointer (some p), .bool true] w fun e w' => e = .returned (.string X) ∧ Own V w' (rdT p Y F :: L) := by
  obtain ⟨Z, hZ⟩ : ∃ Z, s.extract 2 s.size = Z := ⟨_, rfl⟩
  have hz : s.size = r.length + 2 := by rw [size_data, hl]; simp
  have hzs : Z.size = r.length := by rw [← hZ, extract_size]; omega
  have z1 := tlen_o H hs hl hZ hn
  have ex := extract_more s 2 n (by omega)
  rw [hZ, hX, hY] at ex
  have z2 := fun (W : World) (HW : Own V W (rdT p Z F :: L)) => ttake_o HW n (by omega) (by omega) ex.1 ex.2
  clear hX hY hZ ex hl hn
  go_enter Tryz.func160, Tryz.ntmps160
  go_wp2_with (first
    | (go_at_call 121; ((with_reducible refine z1.mono ?_); rintro e w2 ⟨rfl, H2⟩))
    | (go_at_call 120; ((with_reducible refine (z2 _ H2).mono ?_); rintro e w3 ⟨rfl, H3⟩)))
  go_ret
  exact ⟨rfl, H3⟩
theorem titem_q2 {V w : World} {L : List Thing} {p : Addr} {s : ByteArray} {F : List Nat} (H : Own V w (rdT p s F :: L)) (hs : s.size < 2) (room : Bool) :
    Calls Tryz.prog 160 #[.pointer (some p), .bool room] w fun e w' => e = .panicked (thrown 4) ∧ ∃ Y, Own V w' (rdT p Y F :: L) := by
  have z1 := tlen_q H hs
  go_enter Tryz.func160, Tryz.ntmps160
  go_wp2_with (first
    | (go_at_call 121; ((with_reducible refine z1.mono ?_); rintro e w2 ⟨rfl, H2⟩)))
  simp [bodyPost]
  exact ⟨_, H2⟩
set_option maxHeartbeats 2000000 in
theorem titem_q3 {V w : World} {L : List Thing} {p : Addr} {s : ByteArray} {F : List Nat} (H : Own V w (rdT p s F :: L)) (hs : s.size < 1000000) {a b : UInt8} {r : List UInt8} (hl : s.data.toList = a :: b :: r) :
    Calls Tryz.prog 160 #[.pointer (some p), .bool false] w fun e w' => e = .panicked (thrown 3) ∧ ∃ Y, Own V w' (rdT p Y F :: L) := by
  have z1 := tlen_o H hs hl rfl rfl
  clear hl
  go_enter Tryz.func160, Tryz.ntmps160
  go_wp2_with (first
    | (go_at_call 121; ((with_reducible refine z1.mono ?_); rintro e w2 ⟨rfl, H2⟩)))
  simp [bodyPost]
  exact ⟨_, H2⟩
set_option maxHeartbeats 2000000 in
theorem titem_q4 {V w : World} {L : List Thing} {p : Addr} {s : ByteArray} {F : List Nat} (H : Own V w (rdT p s F :: L)) (hs : s.size < 1000000) {a b : UInt8} {r : List UInt8} (hl : s.data.toList = a :: b :: r) {n : Nat} (hn : unword a b = n) (hr : r.length < n) :
    Calls Tryz.prog 160 #[.pointer (some p), .bool true] w fun e w' => e = .panicked (thrown 4) ∧ ∃ Y, Own V w' (rdT p Y F :: L) := by
  obtain ⟨Z, hZ⟩ : ∃ Z, s.extract 2 s.size = Z := ⟨_, rfl⟩
  have hz : s.size = r.length + 2 := by rw [size_data, hl]; simp
  have hzs : Z.size = r.length := by rw [← hZ, extract_size]; omega
  have hnl := unword_lt a b
  rw [hn] at hnl
  have z1 := tlen_o H hs hl hZ hn
  have z2 := fun (W : World) (HW : Own V W (rdT p Z F :: L)) => ttake_q HW n (by omega) (by omega)
  clear hZ hl hn
  go_enter Tryz.func160, Tryz.ntmps160
  go_wp2_with (first
    | (go_at_call 121; ((with_reducible refine z1.mono ?_); rintro e w2 ⟨rfl, H2⟩))
    | (go_at_call 120; ((with_reducible refine (z2 _ H2).mono ?_); rintro e w3 ⟨rfl, H3⟩)))
  simp [bodyPost]
  exact ⟨_, H3⟩
theorem extract_one (s : ByteArray) (t : UInt8) (r : List UInt8) (h : s.data.toList = t :: r) : (s.extract 0 1).data.toList = [t] ∧ (s.extract 1 s.size).data.toList = r := by
  constructor
  · rw [extract_list, h]; rfl
  · rw [extract_list, List.take_of_length_le (by rw [← size_data]; exact Nat.le_refl _), h]; rfl
theorem s_zero {s : ByteArray} {t : UInt8} {r : List UInt8} (h : s.data.toList = t :: r) (g : 0 < s.size) : s[0].toNat = t.toNat := by
  have : s.data.toList[0]'(by rw [h]; simp) = t := by simp [h]
  rw [← this]; rfl
set_option maxHeartbeats 2000000 in
theorem tattr_o {V w : World} {L : List Thing} {p : Addr} {s : ByteArray} {F : List Nat} (H : Own V w (rdT p s F :: L)) (hs : s.size < 1000000) {t a b : UInt8} {r : List UInt8} (hl : s.data.toList = t :: a :: b :: r) {n last : Nat} (hn : unword a b = n) (hr : n ≤ r.length) (h0 : n ≠ 0) (ht : ¬ t.toNat ≤ last)
    {X Y : ByteArray} (hX : s.extract 3 (3 + n) = X) (hY : s.extract (3 + n) s.size = Y) :
    Calls Tryz.prog 79 #[.pointer (some p), .int .u8 (last : Int)] w fun e w' => e = .returned (.agg #[.int .u8 (t.toNat : Int), .string X]) ∧ Own V w' (rdT p Y F :: L) := by
  obtain ⟨Z1, hZ1⟩ : ∃ Z, s.extract 1 s.size = Z := ⟨_, rfl⟩
  obtain ⟨Z, hZ⟩ : ∃ Z, s.extract 3 s.size = Z := ⟨_, rfl⟩
  obtain ⟨X1, hX1⟩ : ∃ X, s.extract 0 1 = X := ⟨_, rfl⟩
  have hz : s.size = r.length + 3 := by rw [size_data, hl]; simp
  have hzs : Z.size = r.length := by rw [← hZ, extract_size]; omega
  have hz1 : Z1.size = r.length + 2 := by rw [← hZ1, extract_size]; omega
  have e1 := extract_one s t _ hl
  rw [hX1, hZ1] at e1
  have e2 := extract_more s 1 2 (by omega)
  rw [hZ1, show 1 + 2 = 3 from rfl, hZ] at e2
  have ex := extract_more s 3 n (by omega)
  rw [hZ, hX, hY] at ex
  have x1 : X1.size = 1 := by rw [size_data, e1.1]; rfl
  have g0 : 0 < X1.size := by omega
  have i0 : (0 : Int) < (X1.size : Int) := by omega
  have x0 := s_zero e1.1 g0
  have lt := t.toNat_lt
  have hnl := unword_lt a b
  rw [hn] at hnl
  have f1 : decide ((t.toNat : Int) ≤ (last : Int)) = false := decide_eq_false (by omega)
  have f2 : decide (t.toNat ≤ last) = false := decide_eq_false ht
  have f3 : ((n : Int) == 0) = false := by rw [beq_eq_false_iff_ne]; omega
  have z1 := fun (W : World) (L' : List Thing) (HW : Own V W (rdT p s F :: L')) => ttake_i HW 1 1 rfl (by omega) hs hX1 hZ1
  have z2 := fun (W : World) (L' : List Thing) (HW : Own V W (rdT p Z1 F :: L')) => tlen_o HW (by omega) e1.2 e2.2 hn
  have z3 := fun (W : World) (L' : List Thing) (HW : Own V W (rdT p Z F :: L')) => ttake_o HW n (by omega) (by omega) ex.1 ex.2
  have HB := (H.blk #[.int .u8 0, .string ⟨#[]⟩] 89).swap
  clear hX hY hZ hZ1 hX1 ex e1 e2 hl hn x1
  go_enter Tryz.func79, Tryz.ntmps79
  go_wp2_with (first
    | (go_at_call 120; first
      | ((with_reducible refine (z1 _ _ HB).mono ?_); rintro e w2 ⟨rfl, H2⟩)
      | ((with_reducible refine (z3 _ _ H3).mono ?_); rintro e w4 ⟨rfl, H4⟩; have b0 := blk_cell H4.second 0 rfl; have b1 := blk_cell H4.second 1 rfl; have b2 := blk_free H4.second 0; have b3 := blk_free H4.second 1))
    | (go_at_call 121; ((with_reducible refine (z2 _ _ H2).mono ?_); rintro e w3 ⟨rfl, H3⟩)))
  have H5 := (H4.swap.store 0 (.int .u8 (t.toNat : Int))).store 1 (.string X)
  obtain ⟨w5, hw5⟩ : ∃ w5, (w4.setCell ⟨w.heap.size, 0, none⟩ (.int .u8 (t.toNat : Int))).setCell ⟨w.heap.size, 1, none⟩ (.string X) = w5 := ⟨_, rfl⟩
  rw [hw5] at H5 ⊢
  have d0 := blk_cell H5.head 0 (v := .int .u8 (t.toNat : Int)) rfl
  have d1 := blk_cell H5.head 1 (v := .string X) rfl
  simp [bodyPost, results, Tryz.results79, go_sem, d0, d1]
  exact H5.drop
set_option maxHeartbeats 2000000 in
theorem tattr_qs {V w : World} {L : List Thing} {p : Addr} {s : ByteArray} {F : List Nat} (H : Own V w (rdT p s F :: L)) (h0 : 0 < s.size) (hs : s.size < 3) (last : Nat) :
    Calls Tryz.prog 79 #[.pointer (some p), .int .u8 (last : Int)] w fun e w' => e = .panicked (thrown 4) ∧ ∃ Y, Own V w' (rdT p Y F :: L) := by
  obtain ⟨Z1, hZ1⟩ : ∃ Z, s.extract 1 s.size = Z := ⟨_, rfl⟩
  obtain ⟨X1, hX1⟩ : ∃ X, s.extract 0 1 = X := ⟨_, rfl⟩
  have hz1 : Z1.size = s.size - 1 := by rw [← hZ1, extract_size]
  obtain ⟨t, r, hl⟩ : ∃ b l, s.data.toList = b :: l := by
    cases q : s.data.toList with
    | nil => rw [size_data, q] at h0; simp at h0
    | cons b l => exact ⟨b, l, rfl⟩
  have e1 := extract_one s t _ hl
  rw [hX1, hZ1] at e1
  have x1 : X1.size = 1 := by rw [size_data, e1.1]; rfl
  have g0 : 0 < X1.size := by omega
  have i0 : (0 : Int) < (X1.size : Int) := by omega
  have z1 := fun (W : World) (L' : List Thing) (HW : Own V W (rdT p s F :: L')) => ttake_i HW 1 1 rfl (by omega) (by omega) hX1 hZ1
  have z2 := fun (W : World) (L' : List Thing) (HW : Own V W (rdT p Z1 F :: L')) => tlen_q HW (by omega)
  have HB := (H.blk #[.int .u8 0, .string ⟨#[]⟩] 89).swap
  clear hZ1 hX1 e1 x1 hl
  go_enter Tryz.func79, Tryz.ntmps79
  go_wp2_with (first
    | (go_at_call 120; ((with_reducible refine (z1 _ _ HB).mono ?_); rintro e w2 ⟨rfl, H2⟩))
    | (go_at_call 121; ((with_reducible refine (z2 _ _ H2).mono ?_); rintro e w3 ⟨rfl, H3⟩)))
  simp [bodyPost]
  exact ⟨_, H3.swap.drop⟩
set_option maxHeartbeats 2000000 in
theorem tattr_q3 {V w : World} {L : List Thing} {p : Addr} {s : ByteArray} {F : List Nat} (H : Own V w (rdT p s F :: L)) (hs : s.size < 1000000) {t a b : UInt8} {r : List UInt8} (hl : s.data.toList = t :: a :: b :: r) {n last : Nat} (hn : unword a b = n) (hbad : t.toNat ≤ last ∨ n = 0) :
    Calls Tryz.prog 79 #[.pointer (some p), .int .u8 (last : Int)] w fun e w' => e = .panicked (thrown 3) ∧ ∃ Y, Own V w' (rdT p Y F :: L) := by
  obtain ⟨Z1, hZ1⟩ : ∃ Z, s.extract 1 s.size = Z := ⟨_, rfl⟩
  obtain ⟨X1, hX1⟩ : ∃ X, s.extract 0 1 = X := ⟨_, rfl⟩
  have hz : s.size = r.length + 3 := by rw [size_data, hl]; simp
  have hz1 : Z1.size = r.length + 2 := by rw [← hZ1, extract_size]; omega
  have e1 := extract_one s t _ hl
  rw [hX1, hZ1] at e1
  have x1 : X1.size = 1 := by rw [size_data, e1.1]; rfl
  have g0 : 0 < X1.size := by omega
  have i0 : (0 : Int) < (X1.size : Int) := by omega
  have x0 := s_zero e1.1 g0
  have lt := t.toNat_lt
  have hnl := unword_lt a b
  rw [hn] at hnl
  have z1 := fun (W : World) (L' : List Thing) (HW : Own V W (rdT p s F :: L')) => ttake_i HW 1 1 rfl (by omega) hs hX1 hZ1
  have z2 := fun (W : World) (L' : List Thing) (HW : Own V W (rdT p Z1 F :: L')) => tlen_o HW (by omega) e1.2 rfl hn
  have HB := (H.blk #[.int .u8 0, .string ⟨#[]⟩] 89).swap
  clear hZ1 hX1 e1 hl hn x1
  by_cases q : t.toNat ≤ last
  · have f1 : decide ((t.toNat : Int) ≤ (last : Int)) = true := decide_eq_true (by omega)
    have f2 : decide (t.toNat ≤ last) = true := decide_eq_true q
    go_enter Tryz.func79, Tryz.ntmps79
    go_wp2_with (first
      | (go_at_call 120; ((with_reducible refine (z1 _ _ HB).mono ?_); rintro e w2 ⟨rfl, H2⟩))
      | (go_at_call 121; ((with_reducible refine (z2 _ _ H2).mono ?_); rintro e w3 ⟨rfl, H3⟩)))
    simp [bodyPost]
    exact ⟨_, H3.swap.drop⟩
  · have n0 : n = 0 := hbad.resolve_left q
    subst n0
    have f1 : decide ((t.toNat : Int) ≤ (last : Int)) = false := decide_eq_false (by omega)
    have f2 : decide (t.toNat ≤ last) = false := decide_eq_false q
    go_enter Tryz.func79, Tryz.ntmps79
    go_wp2_with (first
      | (go_at_call 120; ((with_reducible refine (z1 _ _ HB).mono ?_); rintro e w2 ⟨rfl, H2⟩))
      | (go_at_call 121; ((with_reducible refine (z2 _ _ H2).mono ?_); rintro e w3 ⟨rfl, H3⟩)))
    simp [bodyPost]
    exact ⟨_, H3.swap.drop⟩
set_option maxHeartbeats 2000000 in
theorem tattr_q4 {V w : World} {L : List Thing} {p : Addr} {s : ByteArray} {F : List Nat} (H : Own V w (rdT p s F :: L)) (hs : s.size < 1000000) {t a b : UInt8} {r : List UInt8} (hl : s.data.toList = t :: a :: b :: r) {n last : Nat} (hn : unword a b = n) (hr : r.length < n) (h0 : n ≠ 0) (ht : ¬ t.toNat ≤ last) :
    Calls Tryz.prog 79 #[.pointer (some p), .int .u8 (last : Int)] w fun e w' => e = .panicked (thrown 4) ∧ ∃ Y, Own V w' (rdT p Y F :: L) := by
  obtain ⟨Z1, hZ1⟩ : ∃ Z, s.extract 1 s.size = Z := ⟨_, rfl⟩
  obtain ⟨Z, hZ⟩ : ∃ Z, s.extract 3 s.size = Z := ⟨_, rfl⟩
  obtain ⟨X1, hX1⟩ : ∃ X, s.extract 0 1 = X := ⟨_, rfl⟩
  have hz : s.size = r.length + 3 := by rw [size_data, hl]; simp
  have hzs : Z.size = r.length := by rw [← hZ, extract_size]; omega
  have hz1 : Z1.size = r.length + 2 := by rw [← hZ1, extract_size]; omega
  have e1 := extract_one s t _ hl
  rw [hX1, hZ1] at e1
  have e2 := extract_more s 1 2 (by omega)
  rw [hZ1, show 1 + 2 = 3 from rfl, hZ] at e2
  have x1 : X1.size = 1 := by rw [size_data, e1.1]; rfl
  have g0 : 0 < X1.size := by omega
  have i0 : (0 : Int) < (X1.size : Int) := by omega
  have x0 := s_zero e1.1 g0
  have lt := t.toNat_lt
  have hnl := unword_lt a b
  rw [hn] at hnl
  have f1 : decide ((t.toNat : Int) ≤ (last : Int)) = false := decide_eq_false (by omega)
  have f2 : decide (t.toNat ≤ last) = false := decide_eq_false ht
  have f3 : ((n : Int) == 0) = false := by rw [beq_eq_false_iff_ne]; omega
  have z1 := fun (W : World) (L' : List Thing) (HW : Own V W (rdT p s F :: L')) => ttake_i HW 1 1 rfl (by omega) hs hX1 hZ1
  have z2 := fun (W : World) (L' : List Thing) (HW : Own V W (rdT p Z1 F :: L')) => tlen_o HW (by omega) e1.2 e2.2 hn
  have z3 := fun (W : World) (L' : List Thing) (HW : Own V W (rdT p Z F :: L')) => ttake_q HW n (by omega) (by omega)
  have HB := (H.blk #[.int .u8 0, .string ⟨#[]⟩] 89).swap
  clear hZ hZ1 hX1 e1 e2 hl hn x1
  go_enter Tryz.func79, Tryz.ntmps79
  go_wp2_with (first
    | (go_at_call 120; first
      | ((with_reducible refine (z1 _ _ HB).mono ?_); rintro e w2 ⟨rfl, H2⟩)
      | ((with_reducible refine (z3 _ _ H3).mono ?_); rintro e w4 ⟨rfl, H4⟩))
    | (go_at_call 121; ((with_reducible refine (z2 _ _ H2).mono ?_); rintro e w3 ⟨rfl, H3⟩)))
  simp [bodyPost]
  exact ⟨_, H4.swap.drop⟩

end Go.Proofs.YtilpimilbjcifaaGreatDoor

/- What the code of package tlv does: Decode and ReadList: by walks. -/
namespace Go.Proofs.YtilpimilbjcifaaGreatDoor
set_option linter.unusedVariables false
set_option maxRecDepth 20000
open Go.ChangeShapes Go.WideShapes Go.ChangeAt Go.RowKit Go.Joins
open Go.ChangeMaps (open_string shut_string)

theorem assert_errno (v : Value) (W : World) : (Instr.typeAssert (.iface 53 v) 20 53 false).run Tryz.prog W = .ok v W := by
  first | rfl | kernel_rfl | simp [Instr.typeAssert, go_sem]
/-- The deferred closure, behind a panic: it lays what was thrown. -/
theorem dcatch_p {V w : World} {L : List Thing} {Bl Be : Nat} {v x : Value} {t t' : TypeId} (H : Own V w (blkT Be #[x] t' :: blkT Bl #[v] t :: L)) (c : Nat) (older : List PanicEntry) :
    CallsD Tryz.prog 76 #[.pointer (some ⟨Bl, 0, none⟩), .pointer (some ⟨Be, 0, none⟩)] (.panicking ({ v := .iface 53 (.int .i64 (c : Int)), recovered := false } :: older)) w fun e u' w' =>
      e = .returned (.tuple #[]) ∧ u' = .panicking ({ v := .iface 53 (.int .i64 (c : Int)), recovered := true } :: older) ∧ Own V w' (blkT Be #[.int .i64 (c : Int)] t' :: blkT Bl #[.slice none 0 0] t :: L) := by
  have c0 := blk_cell H.second 0 (v := v) rfl
  have f0 := blk_free H.second 0
  have c1 := blk_cell H.head 0 (v := x) rfl
  have f1 := blk_free H.head 0
  have ne : Bl ≠ Be := by
    have := (List.pairwise_cons.1 H.apart).1 _ (.head _) Be (by simp)
    simpa using fun e : Bl = Be => this (by simp [e])
  have E : Own V ((w.setCell ⟨Bl, 0, none⟩ (.slice none 0 0)).setCell ⟨Be, 0, none⟩ (.int .i64 (c : Int))).drew (blkT Be #[.int .i64 (c : Int)] t' :: blkT Bl #[.slice none 0 0] t :: L) := ((H.swap.store 0 (.slice none 0 0)).swap.store 0 (.int .i64 (c : Int))).quiet (Wider.refl _).drew
  have hta := assert_errno (.int .i64 (c : Int))
  refine callsD_of_wpS Tryz.func76 rfl fun c₀ cs hu => ?_
  apply wpS_seq
  apply wpS_region
  simp [wpOpsS, go_sem, recoverD, hu, Tryz.ntmps76, Exit.thenS]
  refine wpS_of_wp ?_
  change Code.wp Tryz.prog _ _ { tmps := #[.pointer (some ⟨Bl, 0, none⟩), .pointer (some ⟨Be, 0, none⟩), .iface 53 (.int .i64 (c : Int)), .iface 53 (.int .i64 (c : Int)), undef, undef, undef, undef], defers := [] } w
  go_wp2
  go_region
  simp +zetaDelta [bodyPostS, results, Tryz.results76]
  exact E
/-- Behind a return: it finds nothing. -/
theorem dcatch_i {Bl Be : Nat} (w : World) :
    CallsD Tryz.prog 76 #[.pointer (some ⟨Bl, 0, none⟩), .pointer (some ⟨Be, 0, none⟩)] .returning w fun e u' w' => e = .returned (.tuple #[]) ∧ u' = .returning ∧ w' = w := by
  refine callsD_of_wpS Tryz.func76 rfl fun c₀ cs hu => ?_
  apply wpS_seq
  apply wpS_region
  simp [wpOpsS, go_sem, recoverD, hu, Tryz.ntmps76, Exit.thenS]
  refine wpS_of_wp ?_
  change Code.wp Tryz.prog _ _ { tmps := #[.pointer (some ⟨Bl, 0, none⟩), .pointer (some ⟨Be, 0, none⟩), .nilIface, .nilIface, undef, undef, undef, undef], defers := [] } w
  go_wp2
  cases c₀
  simp_all [bodyPostS, results, Tryz.results76]
/-- The like of ReadList. -/
theorem lcatch_p {V w : World} {L : List Thing} {Bl Be : Nat} {v x : Value} {t t' : TypeId} (H : Own V w (blkT Be #[x] t' :: blkT Bl #[v] t :: L)) (c : Nat) (older : List PanicEntry) :
    CallsD Tryz.prog 159 #[.pointer (some ⟨Bl, 0, none⟩), .pointer (some ⟨Be, 0, none⟩)] (.panicking ({ v := .iface 53 (.int .i64 (c : Int)), recovered := false } :: older)) w fun e u' w' =>
      e = .returned (.tuple #[]) ∧ u' = .panicking ({ v := .iface 53 (.int .i64 (c : Int)), recovered := true } :: older) ∧ Own V w' (blkT Be #[.int .i64 (c : Int)] t' :: blkT Bl #[.slice none 0 0] t :: L) := by
  have c0 := blk_cell H.second 0 (v := v) rfl
  have f0 := blk_free H.second 0
  have c1 := blk_cell H.head 0 (v := x) rfl
  have f1 := blk_free H.head 0
  have ne : Bl ≠ Be := by
    have := (List.pairwise_cons.1 H.apart).1 _ (.head _) Be (by simp)
    simpa using fun e : Bl = Be => this (by simp [e])
  have E : Own V ((w.setCell ⟨Bl, 0, none⟩ (.slice none 0 0)).setCell ⟨Be, 0, none⟩ (.int .i64 (c : Int))).drew (blkT Be #[.int .i64 (c : Int)] t' :: blkT Bl #[.slice none 0 0] t :: L) := ((H.swap.store 0 (.slice none 0 0)).swap.store 0 (.int .i64 (c : Int))).quiet (Wider.refl _).drew
  have hta := assert_errno (.int .i64 (c : Int))
  refine callsD_of_wpS Tryz.func159 rfl fun c₀ cs hu => ?_
  apply wpS_seq
  apply wpS_region
  simp [wpOpsS, go_sem, recoverD, hu, Tryz.ntmps159, Exit.thenS]
  refine wpS_of_wp ?_
  change Code.wp Tryz.prog _ _ { tmps := #[.pointer (some ⟨Bl, 0, none⟩), .pointer (some ⟨Be, 0, none⟩), .iface 53 (.int .i64 (c : Int)), .iface 53 (.int .i64 (c : Int)), undef, undef, undef, undef], defers := [] } w
  go_wp2
  go_region
  simp +zetaDelta [bodyPostS, results, Tryz.results159]
  exact E
/-- Behind a return: it finds nothing. -/
theorem lcatch_i {Bl Be : Nat} (w : World) :
    CallsD Tryz.prog 159 #[.pointer (some ⟨Bl, 0, none⟩), .pointer (some ⟨Be, 0, none⟩)] .returning w fun e u' w' => e = .returned (.tuple #[]) ∧ u' = .returning ∧ w' = w := by
  refine callsD_of_wpS Tryz.func159 rfl fun c₀ cs hu => ?_
  apply wpS_seq
  apply wpS_region
  simp [wpOpsS, go_sem, recoverD, hu, Tryz.ntmps159, Exit.thenS]
  refine wpS_of_wp ?_
  change Code.wp Tryz.prog _ _ { tmps := #[.pointer (some ⟨Bl, 0, none⟩), .pointer (some ⟨Be, 0, none⟩), .nilIface, .nilIface, undef, undef, undef, undef], defers := [] } w
  go_wp2
  cases c₀
  simp_all [bodyPostS, results, Tryz.results159]
end Go.Proofs.YtilpimilbjcifaaGreatDoor

/- What the code of package tlv does: Decode: by a walk. -/
namespace Go.Proofs.YtilpimilbjcifaaGreatDoor
set_option linter.unusedVariables false
set_option maxRecDepth 20000
open Go.ChangeShapes Go.WideShapes Go.ChangeAt Go.RowKit Go.Joins
open Go.ChangeMaps (open_string shut_string)

/-- How many bytes a reader has left. -/
def leftOf (w : World) (p : Addr) : Nat :=
  match w.cell? p with
  | some (.slice _ n _) => n
  | _ => 0
theorem RdAt.left {w : World} {p : Addr} {s : ByteArray} {F : List Nat} (h : RdAt w p s F) : leftOf w p = s.size := by
  obtain ⟨b, B, off, cap, rfl, rfl, h⟩ := h
  unfold leftOf; rw [h.cell]
/-- attr, whatever is left: what the document's Decode makes of it. -/
theorem tattr_any {V w : World} {L : List Thing} {p : Addr} {S : ByteArray} {F : List Nat} (H : Own V w (rdT p S F :: L)) (hs : S.size < 1000000) (h0 : S.size ≠ 0) {acc : List AtN} {q : Nat} {m : List AtN} {c : Nat} (hd : decA acc q S.data.toList = (m, c)) :
    (m = [] ∧ Calls Tryz.prog 79 #[.pointer (some p), .int .u8 (q : Int)] w fun e w' => e = .panicked (thrown c) ∧ ∃ Y, Own V w' (rdT p Y F :: L)) ∨
    (∃ (t : Nat) (X Y : ByteArray), t < 256 ∧ Y.size + 1 ≤ S.size ∧ decA (acc ++ [⟨t, X⟩]) t Y.data.toList = (m, c) ∧ Calls Tryz.prog 79 #[.pointer (some p), .int .u8 (q : Int)] w fun e w' => e = .returned (.agg #[.int .u8 (t : Int), .string X]) ∧ Own V w' (rdT p Y F :: L)) := by
  by_cases z3 : S.size < 3
  · rw [decA_short _ _ _ (by intro q; apply h0; rw [size_data, q]; rfl) (by rw [← size_data]; exact z3)] at hd
    obtain ⟨rfl, rfl⟩ : [] = m ∧ 4 = c := by injection hd with a b; exact ⟨a, b⟩
    exact .inl ⟨rfl, tattr_qs H (by omega) z3 q⟩
  · obtain ⟨t, a, b, r, hS⟩ := three S.data.toList (by rw [← size_data]; omega)
    have hrl : r.length + 3 = S.size := by rw [size_data, hS]; simp
    rw [hS, decA_some] at hd
    by_cases q1 : t.toNat ≤ q ∨ unword a b = 0
    · rw [if_pos q1] at hd
      obtain ⟨rfl, rfl⟩ : [] = m ∧ 3 = c := by injection hd with a b; exact ⟨a, b⟩
      exact .inl ⟨rfl, tattr_q3 H hs hS rfl q1⟩
    · rw [if_neg q1] at hd
      by_cases q3 : r.length < unword a b
      · rw [if_pos q3] at hd
        obtain ⟨rfl, rfl⟩ : [] = m ∧ 4 = c := by injection hd with a b; exact ⟨a, b⟩
        exact .inl ⟨rfl, tattr_q4 H hs hS rfl q3 (fun e => q1 (.inr e)) (fun e => q1 (.inl e))⟩
      · rw [if_neg q3] at hd
        refine .inr ⟨t.toNat, S.extract 3 (3 + unword a b), S.extract (3 + unword a b) S.size, t.toNat_lt, by rw [extract_size]; omega, ?_, tattr_o H hs hS rfl (by omega) (fun e => q1 (.inr e)) (fun e => q1 (.inl e)) rfl rfl⟩
        have hV : mkB (r.take (unword a b)) = S.extract 3 (3 + unword a b) := by
          apply ba_ext; rw [mkB_data, extract_list, hS]
          rw [show 3 + unword a b = unword a b + 1 + 1 + 1 by omega]
          simp
        have hW : (S.extract (3 + unword a b) S.size).data.toList = r.drop (unword a b) := by
          rw [extract_tail, hS, show 3 + unword a b = unword a b + 1 + 1 + 1 by omega]; simp only [List.drop_succ_cons]
        rw [← hV, hW]; exact hd
/-- item, whatever is left. -/
theorem titem_any (V : World) (p : Addr) {S : ByteArray} (F : List Nat) (hs : S.size < 1000000) (h0 : S.size ≠ 0) {acc : List ByteArray} {most : Int} {m : List ByteArray} {c : Nat} (hd : decT acc most S.data.toList = (m, c)) {room : Bool} (hroom : decide ((acc.length : Int) < most) = room) :
    (m = [] ∧ ∀ (w : World) (L : List Thing), Own V w (rdT p S F :: L) → Calls Tryz.prog 160 #[.pointer (some p), .bool room] w fun e w' => e = .panicked (thrown c) ∧ ∃ Y, Own V w' (rdT p Y F :: L)) ∨
    (∃ (X Y : ByteArray), Y.size + 1 ≤ S.size ∧ decT (acc ++ [X]) most Y.data.toList = (m, c) ∧ ∀ (w : World) (L : List Thing), Own V w (rdT p S F :: L) → Calls Tryz.prog 160 #[.pointer (some p), .bool room] w fun e w' => e = .returned (.string X) ∧ Own V w' (rdT p Y F :: L)) := by
  by_cases z3 : S.size < 2
  · rw [decT_short _ _ _ (by intro q; apply h0; rw [size_data, q]; rfl) (by rw [← size_data]; exact z3)] at hd
    obtain ⟨rfl, rfl⟩ : [] = m ∧ 4 = c := by injection hd with a b; exact ⟨a, b⟩
    exact .inl ⟨rfl, fun w L H => titem_q2 H z3 room⟩
  · obtain ⟨a, b, r, hS⟩ := pair2 S.data.toList (by rw [← size_data]; omega)
    have hrl : r.length + 2 = S.size := by rw [size_data, hS]; simp
    rw [hS, decT_some] at hd
    by_cases q1 : most ≤ (acc.length : Int)
    · rw [if_pos q1] at hd
      obtain ⟨rfl, rfl⟩ : [] = m ∧ 3 = c := by injection hd with a b; exact ⟨a, b⟩
      obtain rfl : room = false := by rw [← hroom]; exact decide_eq_false (by omega)
      exact .inl ⟨rfl, fun w L H => titem_q3 H hs hS⟩
    · rw [if_neg q1] at hd
      obtain rfl : room = true := by rw [← hroom]; exact decide_eq_true (by omega)
      by_cases q3 : r.length < unword a b
      · rw [if_pos q3] at hd
        obtain ⟨rfl, rfl⟩ : [] = m ∧ 4 = c := by injection hd with a b; exact ⟨a, b⟩
        exact .inl ⟨rfl, fun w L H => titem_q4 H hs hS rfl q3⟩
      · rw [if_neg q3] at hd
        refine .inr ⟨S.extract 2 (2 + unword a b), S.extract (2 + unword a b) S.size, by rw [extract_size]; omega, ?_, fun w L H => titem_o H hs hS rfl (by omega) rfl rfl⟩
        have hV : mkB (r.take (unword a b)) = S.extract 2 (2 + unword a b) := by
          apply ba_ext; rw [mkB_data, extract_list, hS]
          rw [show 2 + unword a b = unword a b + 1 + 1 by omega]
          simp
        have hW : (S.extract (2 + unword a b) S.size).data.toList = r.drop (unword a b) := by
          rw [extract_tail, hS, show 2 + unword a b = unword a b + 1 + 1 by omega]; simp only [List.drop_succ_cons]
        rw [← hV, hW]; exact hd
set_option maxRecDepth 4000 in
set_option maxHeartbeats 8000000 in
theorem tdec_a (s : ByteArray) (w : World) (hs : s.size < 1000000) {m : List AtN} {c : Nat} (hr : decA [] 0 s.data.toList = (m, c)) :
    Calls Tryz.prog 38 #[.string s] w fun e w' => ∃ v, e = .returned (.tuple #[v, .int .i64 (c : Int)]) ∧ Wider w w' ∧ w'.ownsRow w.heap.size 89 2 v m.length (cellsA m) := by
  have hmf : ∀ (fn : Fn) (first cap : Array Value) (w : World), (Instr.makeFunc fn first cap).run Tryz.prog w = .ok (.func fn first cap) w := fun _ _ _ _ => rfl
  have H0 := ((Own.nil (Wider.refl w)).blk #[.slice none 0 0] 82).blk #[.int .i64 0] 53
  have hz : (w.alloc (.cells #[.slice none 0 0] 82)).heap.size = w.heap.size + 1 := by simp
  rw [hz] at H0
  have HR := Lib.hid hr
  have zr := fun W : World => tnewr_a s W
  obtain ⟨i0, hi, hz0, hz1, hz2⟩ := info_parts infoTlv
  clear hr hz
  go_enter_defers Tryz.func38, Tryz.ntmps38
  go_wp2_with (go_at_call 77; ((with_reducible refine (zr _).mono ?_); rintro e w2 ⟨p, F, rfl, g, hR, hF⟩; have H1 := H0.make g hR (rdAt_stable _ _ _) hF))
  have P0 : Own w w2 [rdT p s F, blkT (w.heap.size + 1) #[.int .i64 0] 53, blkT w.heap.size #[.slice none 0 0] 82, rowT 89 2 (.slice none 0 0) 0 (cellsA [])] := H1.nils _ _
  clear H0 H1 hR hF g zr
  go_loopw [5] (fun z wr => ∃ (S : ByteArray) (acc : List AtN) (n : Nat) (v : Value) (q : Nat), z = .int .u8 (q : Int) ∧ acc.length = n ∧ Own w wr [rdT p S F, blkT (w.heap.size + 1) #[.int .i64 0] 53, blkT w.heap.size #[v] 82, rowT 89 2 v n (cellsA acc)] ∧ decA acc q S.data.toList = (m, c) ∧ n + S.size ≤ s.size) (fun _ wr => leftOf wr p)
  case atStart => exact ⟨s, [], 0, _, 0, rfl, rfl, P0, HR.out, by omega⟩
  case round =>
    obtain ⟨S, acc, n, v, q, rfl, hn, H, hd, hl⟩ := hrel
    have HN := Lib.hid hn
    have HD := Lib.hid hd
    have HQ := Lib.hid P0
    clear hn hd P0
    obtain ⟨A, cp, rfl⟩ := ownsRow_shape H.drop.drop.drop.head
    have cl := blk_cell H.drop.drop.head 0 (v := .slice A n cp) rfl
    have fl := blk_free H.drop.drop.head 0
    have ce := blk_cell H.drop.head 0 (v := .int .i64 0) rfl
    have fe := blk_free H.drop.head 0
    by_cases z0 : S.size = 0
    · have t0 : S.data.toList = [] := List.eq_nil_of_length_eq_zero (by rw [← size_data]; exact z0)
      have e := HD.out
      rw [t0, decA_nil] at e
      obtain ⟨rfl, rfl⟩ : acc = m ∧ 0 = c := by injection e with a b; exact ⟨a, b⟩
      have zm := tmore_a H.head (b := false) (by simp [z0])
      have H5 := Lib.hid ((H.third.store 0 (.slice A n cp)).third.store 0 (.int .i64 0))
      clear t0 z0 e
      go_wp2_with (go_at_call 78; ((with_reducible refine zm.mono ?_); rintro e w3 ⟨rfl, rfl⟩))
      have H6 := H5.out
      obtain ⟨w5, hw5⟩ : ∃ w5, (w3.setCell ⟨w.heap.size, 0, none⟩ (.slice A n cp)).setCell ⟨w.heap.size + 1, 0, none⟩ (.int .i64 0) = w5 := ⟨_, rfl⟩
      rw [hw5] at H6 ⊢
      have d1 := blk_cell H6.head 0 (v := .int .i64 0) rfl
      have d0 := blk_cell H6.drop.head 0 (v := .slice A n cp) rfl
      refine leaves_cons (f := 76) (args := #[.pointer (some ⟨w.heap.size, 0, none⟩), .pointer (some ⟨w.heap.size + 1, 0, none⟩)]) (by simp) (by simp [go_sem]) ?_
      refine (dcatch_i _).mono ?_
      rintro e u' w'' ⟨rfl, rfl, rfl⟩
      simp [Leaves, settle, results, Tryz.results38, go_sem, d0, d1]
      exact ⟨H6.wider, by rw [HN.out]; exact own_base H6.fourth⟩
    · have zm := tmore_a H.head (b := true) (by simp; omega)
      rcases tattr_any H (by omega) z0 HD.out with ⟨rfl, za⟩ | ⟨t, X, Y, lt, hYs, hd2, za⟩
      · clear z0
        go_wp2_with (first
          | (go_at_call 78; ((with_reducible refine zm.mono ?_); rintro e w3 ⟨rfl, rfl⟩))
          | (go_at_call 79; ((with_reducible refine za.mono ?_); rintro e w4 ⟨rfl, Y, H4⟩)))
        refine leaves_cons (f := 76) (args := #[.pointer (some ⟨w.heap.size, 0, none⟩), .pointer (some ⟨w.heap.size + 1, 0, none⟩)]) (by simp) (by simp [go_sem]) ?_
        refine (dcatch_p H4.drop c []).mono ?_
        rintro e u' w5 ⟨rfl, rfl, H6⟩
        have d1 := blk_cell H6.head 0 (v := .int .i64 (c : Int)) rfl
        have d0 := blk_cell H6.drop.head 0 (v := .slice none 0 0) rfl
        simp [Leaves, settle, results, Tryz.results38, go_sem, d0, d1]
        exact ⟨H6.wider, World.ownsRow_nil _ _ _ _⟩
      · have HD2 := Lib.hid hd2
        have HL := Lib.hid H.head.left
        have S3 : Hid (n + 1 ≤ maxLen) := by show n + 1 ≤ maxLen; unfold maxLen; omega
        have S4 : Hid ((n + 1) * 24 ≤ 140737488355328) := by show (n + 1) * 24 ≤ 140737488355328; omega
        have SN := Lib.hid (cellsA_snoc acc ⟨t, X⟩).symm
        have KEY : Hid (∀ w4, Own w w4 [rdT p Y F, blkT (w.heap.size + 1) #[.int .i64 0] 53, blkT w.heap.size #[.slice A n cp] 82, rowT 89 2 (.slice A n cp) n (cellsA acc)] →
            (w4.alloc (.cells #[.int .u8 (t : Int), .string X] 89)).cell? ⟨w.heap.size, 0, none⟩ = some (.slice A n cp) ∧
            (w4.alloc (.cells #[.int .u8 (t : Int), .string X] 89)).cell? ⟨w4.heap.size, 0, none⟩ = some (.int .u8 (t : Int)) ∧
            (w4.alloc (.cells #[.int .u8 (t : Int), .string X] 89)).cell? ⟨w4.heap.size, 1, none⟩ = some (.string X) ∧
            Hid (Own w ((w4.alloc (.cells #[.int .u8 (t : Int), .string X] 89)).alloc (.cells #[.int .u8 (t : Int), .string X] 89)) [rowT 89 2 (.slice A n cp) n (cellsA acc), rdT p Y F, blkT (w.heap.size + 1) #[.int .i64 0] 53, blkT w.heap.size #[.slice A n cp] 82]) ∧
            Hid ((∀ a, some (⟨w4.heap.size + 1, 0, none⟩ : Addr) = some a → ∀ (j : Nat) (u : Value), ([.int .u8 (t : Int), .string X] : List Value)[j]? = some u → ((w4.alloc (.cells #[.int .u8 (t : Int), .string X] 89)).alloc (.cells #[.int .u8 (t : Int), .string X] 89)).cell? (a.add j) = some u) ∧ (∀ x ∈ ([.int .u8 (t : Int), .string X] : List Value), x.oneCell' = true))) := by
          intro w4 H4
          have n2 := new2 w4 (.int .u8 (t : Int)) (.string X) 89
          have li := lies2 (w4.alloc (.cells #[.int .u8 (t : Int), .string X] 89)) (.int .u8 (t : Int)) (.string X) 89 rfl rfl
          have ez : (w4.alloc (.cells #[.int .u8 (t : Int), .string X] 89)).heap.size = w4.heap.size + 1 := by simp
          rw [ez] at li
          exact ⟨kalloc (blk_cell H4.drop.drop.head 0 rfl), n2.1, n2.2.1, H4.fourth.quiet (((Wider.refl w4).alloc _).alloc _), fun a e => by cases e; exact li.1, li.2⟩
        clear hd2 z0
        go_wp2_with (first
          | (go_at_call 78; ((with_reducible refine zm.mono ?_); rintro e w3 ⟨rfl, rfl⟩))
          | (go_at_call 79; ((with_reducible refine za.mono ?_); rintro e w4 ⟨rfl, H4⟩; obtain ⟨k0, k1, k2, K3, K4⟩ := KEY.out w4 H4; clear KEY H4))
          | (at_builtin; refine wpList_append_thing rfl (.tmp 17) (.tmp 19) 82 rfl 89 i0 (.agg #[.int .u8 0, .string ⟨#[]⟩]) 2 24 Tryz.underlying82 hi hz0 hz1 hz2 rfl (by decide) _ _ _ rfl K3.out (some ⟨w4.heap.size + 1, 0, none⟩) 1 1 [.int .u8 (t : Int), .string X] rfl rfl (fun e => by cases e) K4.out.1 K4.out.2 S3.out S4.out rfl SN.out ?_; intro B2 c2 w5 H5; have g0 := blk_cell H5.drop.drop.drop.head 0 (v := .slice A n cp) rfl; have g1 := blk_free H5.drop.drop.drop.head 0))
        have H6 : Own w (w5.setCell ⟨w.heap.size, 0, none⟩ (.slice B2 (n + 1) c2)) [rdT p Y F, blkT (w.heap.size + 1) #[.int .i64 0] 53, blkT w.heap.size #[.slice B2 (n + 1) c2] 82, rowT 89 2 (.slice B2 (n + 1) c2) (n + 1) (cellsA (acc ++ [⟨t, X⟩]))] := (H5.fourth.store 0 (.slice B2 (n + 1) c2)).third.fourth.swap
        go_roundw
        case rel => exact ⟨Y, acc ++ [⟨t, X⟩], n + 1, .slice B2 (n + 1) c2, t, rfl, by simp [HN.out], H6, HD2.out, by omega⟩
        case measure =>
          rw [H6.head.left]
          have := HL.out
          omega
end Go.Proofs.YtilpimilbjcifaaGreatDoor

/- What the code of package tlv does: all of its calls (the last one: ReadList, by a walk). -/
namespace Go.Proofs.YtilpimilbjcifaaGreatDoor
set_option linter.unusedVariables false
set_option maxRecDepth 20000
open Go.ChangeShapes Go.WideShapes Go.ChangeAt Go.RowKit Go.Joins
open Go.ChangeMaps (open_string shut_string)

/-- An append to a row beside other things, as one step of a region that draws. -/
theorem step_append_thing {P : Program} {V w : World} {L : List Thing} {ops : Array Oper} {o : Oper} {a : Act} {K : Act → World → Prop} {Q : Exit → Act → World → Prop} {E : Prop} (hgd : o.guard = none) (s x : Operand) (t : TypeId)
    (ho : o.op = Op.call { callee := Callee.builtin Builtin.append, args := #[s, x], argTypes := #[t, t] })
    (e : TypeId) (i : TypeInfo) (z : Value) (size bytes : Nat) (ht : P.underlying t = some (.slice e)) (hi : P.info? e = some i) (hz : i.zero = some z)
    (hsize : i.size = size) (hby : i.bytes = bytes) (hzs : z.cells.size = size) (hsz : 0 < size)
    (v : Value) (n : Nat) (xs : List Value) (hs : a.eval s = v) (H : Own V w (rowT e size v n xs :: L))
    (A : Option Addr) (m c : Nat) (news : List Value) (hx : a.eval x = .slice A m c) (hl : news.length = m * size) (h0 : A = none → m = 0) (hnews : ∀ a, A = some a → ∀ j u, news[j]? = some u → w.cell? (a.add j) = some u) (h1 : ∀ u ∈ news, u.oneCell' = true)
    (h63 : n + m ≤ maxLen) (hbytes : (n + m) * bytes ≤ 140737488355328) {k : Nat} (hk : n + m = k) {ys : List Value} (hys : xs ++ news = ys)
    (h : ∀ B c2 w', Own V w' (rowT e size (.slice B k c2) k ys :: L) → K (a.put o.dst (.slice B k c2)) w') :
    if Region.wanted o (yielded ops a.tmps) = true then Oper.wp P o a w K Q else E := by
  subst hk hys
  have hw : Region.wanted o (yielded ops a.tmps) = true := by simp [Region.wanted, hgd]
  rw [if_pos hw]
  obtain ⟨v', w', hr, h2, h3⟩ := run_append_any (P := P) w 0 t o.type e i z size bytes ht hi hz hsize hby hzs hsz v n xs H.head A m c news hl h0 hnews h1 h63 hbytes (Nat.zero_le _)
  have hb := append_block (P := P) ht hi hz hsize hby hzs hsz H.head hl h0 hnews h1 h63 hbytes hr
  unfold Oper.wp execOp
  simp only [ho, resolve, invoke, builtin, Sem.run_bind, Sem.run_pure, Result.andThen_ok, List.map_toArray, List.map_cons, List.map_nil, hs, hx, hr]
  obtain ⟨B, c2, rfl⟩ := ownsRow_shape h2
  refine h B c2 w' (H.turn (s := rowT e size (.slice B (n + m) c2) (n + m) (xs ++ news)) (grownBy_but h3) h2 (rowT_stable _ _ _ _ _) fun j hj => ?_)
  have hj2 : (Value.slice B (n + m) c2).ownBlock = some j := by simpa using hj
  refine ⟨?_, (h2.lt j hj2).2⟩
  rcases hb j hj2 with q | q
  · exact .inl (by simp [q])
  · exact .inr q
theorem infoS : (Tryz.prog.info? 9).map (fun i => (i.zero, i.size, i.bytes)) = some (some (.string ⟨#[]⟩), 1, 16) := by kernel_rfl
set_option maxRecDepth 4000 in
set_option maxHeartbeats 8000000 in
theorem treadlist_a (s : ByteArray) (most : Int) (w : World) (hs : s.size < 1000000) (m0 : -9223372036854775808 ≤ most) (m1 : most ≤ 9223372036854775807) {m : List ByteArray} {c : Nat} (hr : decT [] most s.data.toList = (m, c)) :
    Calls Tryz.prog 123 #[.string s, .int .i64 most] w fun e w' => ∃ v, e = .returned (.tuple #[v, .int .i64 (c : Int)]) ∧ Wider w w' ∧ w'.ownsRow w.heap.size 9 1 v m.length (cellsS m) := by
  have hmf : ∀ (fn : Fn) (first cap : Array Value) (w : World), (Instr.makeFunc fn first cap).run Tryz.prog w = .ok (.func fn first cap) w := fun _ _ _ _ => rfl
  have H0 := ((Own.nil (Wider.refl w)).blk #[.slice none 0 0] 152).blk #[.int .i64 0] 53
  have hz : (w.alloc (.cells #[.slice none 0 0] 152)).heap.size = w.heap.size + 1 := by simp
  rw [hz] at H0
  have HR := Lib.hid hr
  have zr := fun W : World => tnewr_a s W
  obtain ⟨i0, hi, hz0, hz1, hz2⟩ := info_parts infoS
  clear hr hz
  go_enter_defers Tryz.func123, Tryz.ntmps123
  go_wp2_with (go_at_call 77; ((with_reducible refine (zr _).mono ?_); rintro e w2 ⟨p, F, rfl, g, hR, hF⟩; have H1 := H0.make g hR (rdAt_stable _ _ _) hF))
  have P0 : Own w w2 [rdT p s F, blkT (w.heap.size + 1) #[.int .i64 0] 53, blkT w.heap.size #[.slice none 0 0] 152, rowT 9 1 (.slice none 0 0) 0 (cellsS [])] := H1.nils _ _
  clear H0 H1 hR hF g zr
  go_loopw [12] (fun _ wr => ∃ (S : ByteArray) (acc : List ByteArray) (n : Nat) (v : Value), acc.length = n ∧ Own w wr [rdT p S F, blkT (w.heap.size + 1) #[.int .i64 0] 53, blkT w.heap.size #[v] 152, rowT 9 1 v n (cellsS acc)] ∧ decT acc most S.data.toList = (m, c) ∧ n + S.size ≤ s.size) (fun _ wr => leftOf wr p)
  case atStart => exact ⟨s, [], 0, _, rfl, P0, HR.out, by omega⟩
  case round =>
    obtain ⟨S, acc, n, v, hn, H, hd, hl⟩ := hrel
    have HN := Lib.hid hn
    have HD := Lib.hid hd
    have HQ := Lib.hid P0
    clear hn hd P0
    obtain ⟨A, cp, rfl⟩ := ownsRow_shape H.drop.drop.drop.head
    have cl := blk_cell H.drop.drop.head 0 (v := .slice A n cp) rfl
    have fl := blk_free H.drop.drop.head 0
    have ce := blk_cell H.drop.head 0 (v := .int .i64 0) rfl
    have fe := blk_free H.drop.head 0
    by_cases z0 : S.size = 0
    · have t0 : S.data.toList = [] := List.eq_nil_of_length_eq_zero (by rw [← size_data]; exact z0)
      have e := HD.out
      rw [t0, decT_nil] at e
      obtain ⟨rfl, rfl⟩ : acc = m ∧ 0 = c := by injection e with a b; exact ⟨a, b⟩
      have zm := tmore_a H.head (b := false) (by simp [z0])
      have H5 := Lib.hid ((H.third.store 0 (.slice A n cp)).third.store 0 (.int .i64 0))
      clear t0 z0 e
      go_wp2_with (go_at_call 78; ((with_reducible refine zm.mono ?_); rintro e w3 ⟨rfl, rfl⟩))
      have H6 := H5.out
      obtain ⟨w5, hw5⟩ : ∃ w5, (w3.setCell ⟨w.heap.size, 0, none⟩ (.slice A n cp)).setCell ⟨w.heap.size + 1, 0, none⟩ (.int .i64 0) = w5 := ⟨_, rfl⟩
      rw [hw5] at H6 ⊢
      have d1 := blk_cell H6.head 0 (v := .int .i64 0) rfl
      have d0 := blk_cell H6.drop.head 0 (v := .slice A n cp) rfl
      refine leaves_cons (f := 159) (args := #[.pointer (some ⟨w.heap.size, 0, none⟩), .pointer (some ⟨w.heap.size + 1, 0, none⟩)]) (by simp) (by simp [go_sem]) ?_
      refine (lcatch_i _).mono ?_
      rintro e u' w'' ⟨rfl, rfl, rfl⟩
      simp [Leaves, settle, results, Tryz.results123, go_sem, d0, d1]
      exact ⟨H6.wider, by rw [HN.out]; exact own_base H6.fourth⟩
    · have zm := tmore_a H.head (b := true) (by simp; omega)
      obtain ⟨room, hroom⟩ : ∃ room, decide ((acc.length : Int) < most) = room := ⟨_, rfl⟩
      have zi := titem_any w p F (by omega) z0 HD.out hroom
      rw [HN.out] at hroom
      rcases zi with ⟨rfl, za⟩ | ⟨X, Y, hYs, hd2, za⟩
      · clear z0
        go_upto_region 4 with (go_at_call 78; ((with_reducible refine zm.mono ?_); rintro e w3 ⟨rfl, rfl⟩))
        have H3 := za _ _ (H.quiet (Wider.refl _).drew)
        refine Code.wp_mono (Q := fun e a wq => match e with
          | .panic ch => ((a.tmps[4]? = some (.pointer (some ⟨w.heap.size, 0, none⟩)) ∧ a.tmps[5]? = some (.pointer (some ⟨w.heap.size + 1, 0, none⟩)) ∧ a.defers = [{ target := .fn (.func 159) #[.pointer (some ⟨w.heap.size, 0, none⟩), .pointer (some ⟨w.heap.size + 1, 0, none⟩)], args := #[] }])) ∧ ch = thrown c ∧ ∃ Y, Own w wq [rdT p Y F, blkT (w.heap.size + 1) #[.int .i64 0] 53, blkT w.heap.size #[.slice A n cp] 152, rowT 9 1 (.slice A n cp) n (cellsS acc)]
          | _ => False) ?_ ?_
        · intro e a wq hq
          cases e with
          | panic ch =>
            obtain ⟨⟨h4, h5, hdf⟩, rfl, Y, H4⟩ := hq
            obtain ⟨T, D⟩ := a
            subst hdf
            simp only at h4 h5
            show bodyPostD _ _ _ (Exit.panic (thrown c)) _ _
            refine leaves_cons (f := 159) (args := #[.pointer (some ⟨w.heap.size, 0, none⟩), .pointer (some ⟨w.heap.size + 1, 0, none⟩)]) (by simp) (by simp [go_sem]) ?_
            refine (lcatch_p H4.drop c []).mono ?_
            rintro e u' w5 ⟨rfl, rfl, H6⟩
            have d1 := blk_cell H6.head 0 (v := .int .i64 (c : Int)) rfl
            have d0 := blk_cell H6.drop.head 0 (v := .slice none 0 0) rfl
            simp [Leaves, settle, results, Tryz.results123, go_sem, d0, d1, h4, h5]
            exact ⟨H6.wider, World.ownsRow_nil _ _ _ _⟩
          | _ => exact hq.elim
        · have put : ∀ (d : Nat) (v : Value), d ≠ 4 → d ≠ 5 → ∀ (ch : List PanicEntry) (a : Act) (wq : World),
            (((a.put (some d) v).tmps[4]? = some (.pointer (some ⟨w.heap.size, 0, none⟩)) ∧ (a.put (some d) v).tmps[5]? = some (.pointer (some ⟨w.heap.size + 1, 0, none⟩)) ∧ (a.put (some d) v).defers = [{ target := .fn (.func 159) #[.pointer (some ⟨w.heap.size, 0, none⟩), .pointer (some ⟨w.heap.size + 1, 0, none⟩)], args := #[] }])) ∧ ch = thrown c ∧ (∃ Y, Own w wq [rdT p Y F, blkT (w.heap.size + 1) #[.int .i64 0] 53, blkT w.heap.size #[.slice A n cp] 152, rowT 9 1 (.slice A n cp) n (cellsS acc)]) →
            ((a.tmps[4]? = some (.pointer (some ⟨w.heap.size, 0, none⟩)) ∧ a.tmps[5]? = some (.pointer (some ⟨w.heap.size + 1, 0, none⟩)) ∧ a.defers = [{ target := .fn (.func 159) #[.pointer (some ⟨w.heap.size, 0, none⟩), .pointer (some ⟨w.heap.size + 1, 0, none⟩)], args := #[] }])) ∧ ch = thrown c ∧ (∃ Y, Own w wq [rdT p Y F, blkT (w.heap.size + 1) #[.int .i64 0] 53, blkT w.heap.size #[.slice A n cp] 152, rowT 9 1 (.slice A n cp) n (cellsS acc)]) := by
            rintro d v d4 d5 ch a wq ⟨⟨h4, h5, hdf⟩, hh⟩
            refine ⟨⟨?_, ?_, hdf⟩, hh⟩
            · rw [← h4]; simp [Act.put, d4]
            · rw [← h5]; simp [Act.put, d5]
          refine wp_region_held_drew (S := fun w' => w'.cell? ⟨w.heap.size, 0, none⟩ = some (.slice A n cp)) (by kernel_rfl) cl fun hHeld => ?_
          refine wpAnyH_take (i := 0) (v := .slice A n cp) rfl (by kernel_rfl) (by kernel_rfl) (by kernel_rfl) (put 12 _ (by decide) (by decide)) (Or.inl ⟨by rfl, ?_⟩) hHeld ?_
          · intro w' hS
            (try dsimp only at hS)
            go_simp
          simp only [Act.put]
          refine wpAnyH_take (i := 1) (v := .pointer (some p)) rfl (by kernel_rfl) (by kernel_rfl) (by kernel_rfl) (put 13 _ (by decide) (by decide)) (Or.inl ⟨by rfl, ?_⟩) hHeld ?_
          · intro w' hS
            (try dsimp only at hS)
            go_simp
          simp only [Act.put]
          refine wpAnyH_take (i := 2) (v := .slice A n cp) rfl (by kernel_rfl) (by kernel_rfl) (by kernel_rfl) (put 14 _ (by decide) (by decide)) (Or.inl ⟨by rfl, ?_⟩) hHeld ?_
          · intro w' hS
            (try dsimp only at hS)
            go_simp
          simp only [Act.put]
          refine wpAnyH_take (i := 3) (v := .int .i64 (n : Int)) rfl (by kernel_rfl) (by kernel_rfl) (by kernel_rfl) (put 15 _ (by decide) (by decide)) (Or.inl ⟨by rfl, ?_⟩) hHeld ?_
          · intro w' hS
            (try dsimp only at hS)
            go_simp
          simp only [Act.put]
          refine wpAnyH_take (i := 4) (v := .int .i64 most) rfl (by kernel_rfl) (by kernel_rfl) (by kernel_rfl) (put 16 _ (by decide) (by decide)) (Or.inl ⟨by rfl, ?_⟩) hHeld ?_
          · intro w' hS
            (try dsimp only at hS)
            go_simp
          simp only [Act.put]
          refine wpAnyH_take (i := 5) (v := .bool room) rfl (by kernel_rfl) (by kernel_rfl) (by kernel_rfl) (put 17 _ (by decide) (by decide)) (Or.inl ⟨by rfl, ?_⟩) hHeld ?_
          · intro w' hS
            (try dsimp only at hS)
            go_simp
          simp only [Act.put]
          refine wpAnyH_ready (rs := [6]) (by kernel_rfl) (by simp) ?_
          refine AllReadyH.cons rfl (fun K hK => ?_) AllReadyH.nil
          go_simp
          go_at_call 160
          refine H3.mono ?_
          rintro e w4 ⟨rfl, Y, H4⟩
          exact ⟨rfl, Y, H4⟩
      · have HD2 := Lib.hid hd2
        have HL := Lib.hid H.head.left
        have S3 : Hid (n + 1 ≤ maxLen) := by show n + 1 ≤ maxLen; unfold maxLen; omega
        have S4 : Hid ((n + 1) * 16 ≤ 140737488355328) := by show (n + 1) * 16 ≤ 140737488355328; omega
        have SN := Lib.hid (cellsS_snoc acc X).symm
        have KEY : Hid (∀ w4, Own w w4 [rdT p Y F, blkT (w.heap.size + 1) #[.int .i64 0] 53, blkT w.heap.size #[.slice A n cp] 152, rowT 9 1 (.slice A n cp) n (cellsS acc)] →
            w4.cell? ⟨w.heap.size, 0, none⟩ = some (.slice A n cp) ∧ (w4.alloc (.cells #[.string X] 9)).cell? ⟨w.heap.size, 0, none⟩ = some (.slice A n cp) ∧
            Hid (Own w (w4.alloc (.cells #[.string X] 9)) [rowT 9 1 (.slice A n cp) n (cellsS acc), rdT p Y F, blkT (w.heap.size + 1) #[.int .i64 0] 53, blkT w.heap.size #[.slice A n cp] 152]) ∧
            Hid ((∀ a, some (⟨w4.heap.size, 0, none⟩ : Addr) = some a → ∀ (j : Nat) (u : Value), ([.string X] : List Value)[j]? = some u → (w4.alloc (.cells #[.string X] 9)).cell? (a.add j) = some u) ∧ (∀ x ∈ ([.string X] : List Value), x.oneCell' = true))) := by
          intro w4 H4
          have li := lies1 w4 (.string X) 9 rfl
          exact ⟨blk_cell H4.drop.drop.head 0 rfl, kalloc (blk_cell H4.drop.drop.head 0 rfl), H4.fourth.quiet ((Wider.refl w4).alloc _), fun a e => by cases e; exact li.1, li.2⟩
        clear hd2 z0
        go_upto_region 4 with (go_at_call 78; ((with_reducible refine zm.mono ?_); rintro e w3 ⟨rfl, rfl⟩))
        have H3 := za _ _ (H.quiet (Wider.refl _).drew)
        refine wp_region_noPanic ?_
        go_region_law (first
          | (refine step_append_thing rfl (.tmp 12) (.tmp 19) 152 rfl 9 i0 (.string ⟨#[]⟩) 1 16 Tryz.underlying152 hi hz0 hz1 hz2 rfl (by decide) _ _ _ rfl K3.out (some ⟨w4.heap.size, 0, none⟩) 1 1 [.string X] rfl rfl (fun e => by cases e) K4.out.1 K4.out.2 S3.out S4.out rfl SN.out ?_; intro B2 c2 w5 H5; have g0 := blk_cell H5.drop.drop.drop.head 0 (v := .slice A n cp) rfl; have g1 := blk_free H5.drop.drop.drop.head 0)
          | (go_simp; go_at_call 160; ((with_reducible refine H3.mono ?_); rintro e w4 ⟨rfl, H4⟩; obtain ⟨k0, k1, K3, K4⟩ := KEY.out w4 H4; clear H4)))
        all_goals
          refine NoPanic.normal ?_
          have H6 : Own w (w5.setCell ⟨w.heap.size, 0, none⟩ (.slice B2 (n + 1) c2)) [rdT p Y F, blkT (w.heap.size + 1) #[.int .i64 0] 53, blkT w.heap.size #[.slice B2 (n + 1) c2] 152, rowT 9 1 (.slice B2 (n + 1) c2) (n + 1) (cellsS (acc ++ [X]))] := (H5.fourth.store 0 (.slice B2 (n + 1) c2)).third.fourth.swap
          go_wp2
          go_roundw
          case rel => exact ⟨Y, acc ++ [X], n + 1, .slice B2 (n + 1) c2, by simp [HN.out], H6, HD2.out, by omega⟩
          case measure =>
            rw [H6.head.left]
            have := HL.out
            omega
end Go.Proofs.YtilpimilbjcifaaGreatDoor
