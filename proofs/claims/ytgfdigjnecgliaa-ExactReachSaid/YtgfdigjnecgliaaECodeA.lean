/- Package exact: slots in memory, and where a key is looked for: by walks of its code. -/
import Derived.Test.YtgfdigjnecgliaaEUse
import Derived.Test.YtgfdigjnecgliaaHCode
import Derived.Test.YtgfdigjnecgliaaBlk
import Derived.Test.YtgfdigjnecgliaaQuiet
namespace Go.Proofs.Ytgfdigjnecgliaa
set_option linter.unusedVariables false
open Go.ChangeShapes Go.WideShapes Go.ChangeAt Go.RowKit Go.Joins
open Tab

/-! ### Slots in memory -/
def cellE : Option (ByteArray × Int) → List Value
  | none => [.string ⟨#[]⟩, .int .i64 0, .bool false]
  | some (k, v) => [.string k, .int .i64 v, .bool true]
def keyO : Option (ByteArray × Int) → ByteArray
  | none => ⟨#[]⟩
  | some x => x.1
def numO : Option (ByteArray × Int) → Int
  | none => 0
  | some x => x.2
theorem cellE_eq (x : Option (ByteArray × Int)) : cellE x = [.string (keyO x), .int .i64 (numO x), .bool x.isSome] := by cases x <;> rfl
def cellsE (L : SlotsE) : List Value := L.flatMap cellE
theorem cellsE_cons (x : Option (ByteArray × Int)) (L : SlotsE) : cellsE (x :: L) = .string (keyO x) :: .int .i64 (numO x) :: .bool x.isSome :: cellsE L := by
  show cellE x ++ cellsE L = _
  rw [cellE_eq]; rfl
theorem cellsE_length (L : SlotsE) : (cellsE L).length = L.length * 3 := by
  induction L with
  | nil => rfl
  | cons x L ih => rw [cellsE_cons]; simp only [List.length_cons]; rw [ih]; omega
theorem cellsE_at : ∀ (L : SlotsE) (p : Nat), p < L.length → (cellsE L)[p * 3]? = some (.string (keyO (tk L p))) ∧ (cellsE L)[p * 3 + 1]? = some (.int .i64 (numO (tk L p))) ∧ (cellsE L)[p * 3 + 2]? = some (.bool (tk L p).isSome)
  | [], p, h => absurd h (Nat.not_lt_zero _)
  | x :: L, 0, h => by rw [cellsE_cons]; exact ⟨rfl, rfl, rfl⟩
  | x :: L, p + 1, h => by
    have := cellsE_at L p (by simpa using h)
    rw [cellsE_cons, tk_cons_succ]
    have e : (p + 1) * 3 = p * 3 + 1 + 1 + 1 := by omega
    rw [e]
    simpa using this
theorem cellsE_set : ∀ (L : SlotsE) (p : Nat) (x : Option (ByteArray × Int)), p < L.length → (((cellsE L).set (p * 3) (.string (keyO x))).set (p * 3 + 1) (.int .i64 (numO x))).set (p * 3 + 2) (.bool x.isSome) = cellsE (L.set p x)
  | [], p, x, h => absurd h (Nat.not_lt_zero _)
  | y :: L, 0, x, h => by rw [List.set_cons_zero, cellsE_cons, cellsE_cons]; rfl
  | y :: L, p + 1, x, h => by
    have := cellsE_set L p x (by simpa using h)
    rw [cellsE_cons, List.set_cons_succ, cellsE_cons]
    have e : (p + 1) * 3 = p * 3 + 1 + 1 + 1 := by omega
    rw [e]
    simp only [List.set_cons_succ]
    rw [this]
theorem cellsE_one (L : SlotsE) : ∀ u ∈ cellsE L, u.oneCell' = true := by
  induction L with
  | nil => intro u hu; cases hu
  | cons x L ih =>
    intro u hu
    rw [cellsE_cons] at hu
    simp only [List.mem_cons] at hu
    rcases hu with rfl | rfl | rfl | hu
    · rfl
    · rfl
    · rfl
    · exact ih u hu
theorem cellsE_free (n : Nat) : madeCells #[.string ⟨#[]⟩, .int .i64 0, .bool false] (n * 3) = (cellsE (List.replicate n none)).toArray := by
  apply Array.ext_getElem?
  intro i
  have r : (cellsE (List.replicate n none)).toArray[i]? = (cellsE (List.replicate n none))[i]? := by simp
  rw [r]
  clear r
  have l := cellsE_length (List.replicate n none)
  rw [List.length_replicate] at l
  by_cases c : i < n * 3
  · obtain ⟨p, r, rfl, hr⟩ : ∃ p r, i = p * 3 + r ∧ r < 3 := ⟨i / 3, i % 3, by omega, by omega⟩
    have hp : p < n := by omega
    obtain ⟨a0, a1, a2⟩ := cellsE_at (List.replicate n none) p (by rw [List.length_replicate]; exact hp)
    rw [tk_replicate] at a0 a1 a2
    match r, hr with
    | 0, _ =>
      rw [Nat.add_zero] at c ⊢
      rw [a0]
      have m : p * 3 % 3 = 0 := by omega
      simp [madeCells, c, keyO, m]
    | 1, _ =>
      rw [a1]
      have m : (p * 3 + 1) % 3 = 1 := by omega
      simp [madeCells, c, numO, m]
    | 2, _ =>
      rw [a2]
      have m : (p * 3 + 2) % 3 = 2 := by omega
      simp [madeCells, c, m]
  · rw [List.getElem?_eq_none (by omega)]
    simp [madeCells]; omega
/-- The slots L lie in the block B. -/
abbrev blkE (B : Nat) (L : SlotsE) : Thing := blkT B (cellsE L).toArray 47
theorem slot_cells {w : World} {B : Nat} {L : SlotsE} (h : w.heap[B]? = some (.cells (cellsE L).toArray 47 (0, 0))) {p : Nat} (hp : p < L.length) {x : Option (ByteArray × Int)} (hx : tk L p = x) :
    w.cell? ⟨B, p * 3, none⟩ = some (.string (keyO x)) ∧ w.cell? ⟨B, p * 3 + 1, none⟩ = some (.int .i64 (numO x)) ∧ w.cell? ⟨B, p * 3 + 2, none⟩ = some (.bool x.isSome) := by
  obtain ⟨a0, a1, a2⟩ := cellsE_at L p hp
  rw [hx] at a0 a1 a2
  exact ⟨blk_cell h _ (by rw [List.getElem?_toArray]; exact a0), blk_cell h _ (by rw [List.getElem?_toArray]; exact a1), blk_cell h _ (by rw [List.getElem?_toArray]; exact a2)⟩
/-- A slot is written. -/
theorem Own.slot {V w : World} {R : List Thing} {B : Nat} {L : SlotsE} (H : Own V w (blkE B L :: R)) {p : Nat} (hp : p < L.length) (x : Option (ByteArray × Int)) :
    Own V (((w.setCell ⟨B, p * 3, none⟩ (.string (keyO x))).setCell ⟨B, p * 3 + 1, none⟩ (.int .i64 (numO x))).setCell ⟨B, p * 3 + 2, none⟩ (.bool x.isSome)) (blkE B (L.set p x) :: R) := by
  have h := ((H.store (p * 3) (.string (keyO x))).store (p * 3 + 1) (.int .i64 (numO x))).store (p * 3 + 2) (.bool x.isSome)
  simp only [List.setIfInBounds_toArray] at h
  rw [cellsE_set L p x hp] at h
  exact h

/-! ### Ways round -/
theorem nx_P {n a j : Nat} (ha : a < n) (hj : j < n) : nx n (P n a j) = P n a (j + 1) := by
  unfold nx P
  split <;> split <;> split <;> omega
theorem eafter_c (a n : Nat) (ha : a < n) (hn : n < 1000000) (w : World) :
    Calls Try.prog 27 #[.int .i64 (a : Int), .int .i64 (n : Int)] w fun e w' => e = .returned (.int .i64 (nx n a : Int)) ∧ w = w' := by
  have fin : ((a : Int) + 1) % (n : Int) = (nx n a : Int) := by
    unfold nx
    split
    · rw [Int.emod_eq_of_lt (by omega) (by omega)]; rfl
    · have e : (a : Int) + 1 = (n : Int) := by omega
      rw [e, Int.emod_self]; rfl
  have FIN := Lib.hid fin
  clear fin
  go_enter Try.func27, Try.ntmps27
  go_wp2
  all_goals first
    | omega
    | (go_ret; exact ⟨by simp; exact FIN.out, rfl⟩)
theorem esteps_c (a b n : Nat) (ha : a < n) (hb : b < n) (hn : n < 1000000) (w : World) :
    Calls Try.prog 29 #[.int .i64 (a : Int), .int .i64 (b : Int), .int .i64 (n : Int)] w fun e w' => e = .returned (.int .i64 (D n a b : Int)) ∧ w = w' := by
  have fin : ((b : Int) - (a : Int) + (n : Int)) % (n : Int) = (D n a b : Int) := by
    rw [Int.add_emod_right]
    unfold D
    split
    · rw [Int.emod_eq_of_lt (by omega) (by omega)]; omega
    · rw [← Int.add_emod_right, Int.emod_eq_of_lt (by omega) (by omega)]; omega
  rw [Int.add_emod_right] at fin
  have FIN := Lib.hid fin
  clear fin
  go_enter Try.func29, Try.ntmps29
  go_wp2
  all_goals first
    | omega
    | (go_ret; exact ⟨by simp; exact FIN.out, rfl⟩)
theorem textsH_one (k : ByteArray) : textsH [k] = hashH k.data.toList := by
  unfold textsH hashH
  rw [joinL_one]
theorem ehome_c (k : ByteArray) (n : Nat) (hk : k.size < 1000000) (h1 : 1 ≤ n) (hn : n < 1000000) {r : Nat} (hr : homeE k n = r) (w : World) :
    Calls Try.prog 26 #[.string k, .int .i64 (n : Int)] w fun e w' => e = .returned (.int .i64 (r : Int)) ∧ Wider w w' := by
  have s0 := StrsAt.new w [k] 9 #[.string k] rfl
  obtain ⟨x, hx⟩ : ∃ x, (textsH [k]).toNat = x := ⟨_, rfl⟩
  obtain ⟨y, hy⟩ : ∃ y, (mixH (textsH [k])).toNat = y := ⟨_, rfl⟩
  have z1 := hof_c (some ⟨w.heap.size, 0, none⟩) 1 1 [k] (w.alloc (.cells #[.string k] 9)) s0 rfl (by omega) (by rw [joinL_one]; exact hk) hx
  have z2 := hmix_c (textsH [k]) hx hy
  have z3 := hslot_c y (n : Int) (r := r) (by rw [← hy]; exact BitVec.isLt _) (by omega) (by omega) (by
    rw [if_neg (by omega), ← hr]
    unfold homeE
    rw [← textsH_one, hy]; rfl)
  have H : Wider w w := Wider.refl w
  clear hx hy hr s0
  go_enter Try.func26, Try.ntmps26
  go_wp2_with (first
    | (go_at_call 34; ((with_reducible refine z1.mono ?_); rintro e w1 ⟨rfl, g⟩; replace H := (H.alloc _).trans g; clear g))
    | (go_at_call 33; ((with_reducible refine (z2 _).mono ?_); rintro e w2 ⟨rfl, g⟩; replace H := H.trans g; clear g))
    | (go_at_call 32; ((with_reducible refine (z3 _).mono ?_); rintro e w3 ⟨rfl, g⟩; replace H := H.trans g; clear g)))
  go_ret
  exact ⟨rfl, H⟩

/-! ### Where a key is looked for -/
theorem text_ne {s t : ByteArray} (h : s ≠ t) : (s.toList == t.toList) = false ∧ ¬ s.toList = t.toList := by
  have e : ¬ s.toList = t.toList := fun e => h (ba_ext (by rw [← ByteArray.toList_eq, ← ByteArray.toList_eq]; exact e))
  exact ⟨by simpa using e, e⟩
set_option maxHeartbeats 2000000 in
theorem efind_c {w : World} {B : Nat} {L : SlotsE} {n : Nat} (hB : w.heap[B]? = some (.cells (cellsE L).toArray 47 (0, 0))) (hL : L.length = n) (hn : n < 1000000) {k : ByteArray} (hk : k.size < 1000000) {p : Nat} (hl : IsLook homeE L k p)
    {d : Nat} (hd : D n (homeE k n) p + 1 = d) :
    Calls Try.prog 20 #[.slice (some ⟨B, 0, none⟩) n n, .string k] w fun e w' => e = .returned (.tuple #[.int .i64 (p : Int), .int .i64 (d : Int)]) ∧ Wider w w' := by
  have hp : p < n := by have := hl.lt; omega
  obtain ⟨h0, hh⟩ : ∃ h0, homeE k n = h0 := ⟨_, rfl⟩
  have lt0 : h0 < n := by rw [← hh]; exact homeE_lt k n (by omega)
  have zh := ehome_c k n hk (by omega) hn hh
  have hpath : ∀ q, q < n → D n h0 q < D n h0 p → ∃ k2 v2, tk L q = some (k2, v2) ∧ k2 ≠ k := by
    have := hl.path; rw [hL, hh] at this; exact this
  have hhere := hl.here_
  rw [hh] at hd
  have dn := D_lt lt0 hp
  have P0 : P n h0 0 = h0 := by unfold P; rw [if_pos (by omega)]; rfl
  have HB := Lib.hid hB
  have HL := Lib.hid hL
  have HP := Lib.hid hpath
  have HD := Lib.hid hd
  have HW : Wider w w := Wider.refl w
  have HH := Lib.hid hhere
  clear hB hL hl hh hpath hd hhere
  go_enter Try.func20, Try.ntmps20
  go_wp2_with (first
    | (go_at_call 26; ((with_reducible refine (zh _).mono ?_); rintro e w1 ⟨rfl, g⟩; replace HW := HW.trans g; clear g)))
  go_loopw [4, 5] (fun a b wr => ∃ j : Nat, j ≤ D n h0 p ∧ (∃ q : Nat, a = .int .i64 (q : Int) ∧ Hid (P n h0 j = q)) ∧ b = .int .i64 (((j + 1 : Nat)) : Int) ∧ Wider w wr) (fun _ b _ => n - (intOf b).toNat)
  case atStart => exact ⟨0, Nat.zero_le _, ⟨h0, rfl, P0⟩, rfl, HW⟩
  case round =>
    obtain ⟨j, hj, ⟨q, rfl, HQ⟩, rfl, g⟩ := hrel
    have ql : q < n := by rw [← HQ.out]; exact P_lt lt0 (by omega)
    have q0 : (0 : Int) ≤ (q : Int) := by omega
    have q1 : (q : Int) < (n : Int) := by omega
    by_cases c : j < D n h0 p
    · obtain ⟨k2, v2, e2, ne⟩ := HP.out q ql (by rw [← HQ.out, D_P lt0 (by omega)]; exact c)
      obtain ⟨c0, c1, c2⟩ := slot_cells ((wheap g (by exact (Array.getElem?_eq_some_iff.1 HB.out).1)).trans HB.out) (by rw [HL.out]; exact ql) e2
      obtain ⟨t0, t1⟩ := text_ne ne
      have t2 := t0
      have HN := Lib.hid ((congrArg (nx n) HQ.out).symm.trans (nx_P lt0 (by omega)))
      obtain ⟨q2, hq2⟩ : ∃ q2, nx n q = q2 := ⟨_, rfl⟩
      have za := eafter_c q n ql hn
      rw [hq2] at za
      have HN2 : Hid (P n h0 (j + 1) = q2) := by have := HN.out; rw [hq2] at this; exact this.symm
      clear HN hq2 e2 HW
      simp only [keyO, Option.isSome_some] at c0 c2
      go_wp2_with (first
        | (go_at_call 27; ((with_reducible refine (za _).mono ?_); rintro e w3 ⟨rfl, rfl⟩)))
      go_roundw
      case rel => exact ⟨j + 1, by omega, ⟨q2, rfl, HN2⟩, by go_num, g⟩
      case measure => simp [intOf]; omega
    · obtain rfl : D n h0 p = j := by omega
      have eq : q = p := by rw [← HQ.out, P_D lt0 hp]
      subst eq
      have hBr := (wheap g (by exact (Array.getElem?_eq_some_iff.1 HB.out).1)).trans HB.out
      obtain rfl : D n h0 q + 1 = d := HD.out
      rcases HH.out with e2 | ⟨v2, e2⟩
      · obtain ⟨c0, c1, c2⟩ := slot_cells hBr (by rw [HL.out]; exact ql) e2
        simp only [Option.isSome_none] at c2
        clear hBr e2 HW
        go_wp2
        go_ret2
        exact ⟨rfl, g⟩
      · obtain ⟨c0, c1, c2⟩ := slot_cells hBr (by rw [HL.out]; exact ql) e2
        simp only [keyO, Option.isSome_some] at c0 c2
        clear hBr e2 HW
        go_wp2
        go_ret2
        exact ⟨rfl, g⟩
end Go.Proofs.Ytgfdigjnecgliaa
