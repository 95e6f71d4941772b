/- Package trie: longer, list, All, twin, Copy: by walks of its code. -/
import Derived.Test.YtjnccpbedffijaaJCodeD
namespace Go.Proofs.Ytjnccpbedffijaa
set_option linter.unusedVariables false
open Go.ChangeShapes Go.WideShapes Go.ChangeAt Go.RowKit Go.Joins

/-! ### longer -/
abbrev zeroB : ByteArray := ⟨#[0]⟩
theorem byteS_zero (s : ByteArray) (j : Nat) : byteS (s ++ zeroB) j = if j < s.size then byteS s j else 0 := by
  unfold byteS
  rw [ByteArray.data_append, Array.toList_append]
  rw [List.getD_eq_getElem?_getD, List.getElem?_append, List.getD_eq_getElem?_getD]
  have e : s.data.toList.length = s.size := rfl
  rw [e]
  by_cases c : j < s.size
  · rw [if_pos c, if_pos c]
  · rw [if_neg c, if_neg c]
    by_cases d : j - s.size = 0
    · rw [d]; rfl
    · rw [List.getElem?_eq_none (by show ([0] : List UInt8).length ≤ _; simp; omega)]; rfl
theorem bitS_zero (s : ByteArray) (i : Nat) : bitS (s ++ zeroB) i = if i < 8 * s.size then bitS s i else 0 := by
  unfold bitS
  rw [byteS_zero]
  by_cases c : i < 8 * s.size
  · rw [if_pos c, if_pos (by omega)]
  · rw [if_neg c, if_neg (by omega)]; simp
theorem size_zero (s : ByteArray) : (s ++ zeroB).size = s.size + 1 := by rw [ByteArray.size_append]; rfl
theorem putJ {key : ByteArray} {bs : List Bool} (h : IsKey key bs) (hl : bs.length < 256) (b : Bool) {S : ByteArray} (hS : S = key ∧ bs.length % 8 ≠ 0 ∨ S = key ++ zeroB ∧ bs.length % 8 = 0) :
    PutR S (bs.length : Int) 1 (BitVec.ofNat 128 b.toNat) (keyJ (bs ++ [b])) 0 ∧ S.size < 1000000 := by
  have hz := h.size
  have ss : S.size = (bs.length + 8) / 8 := by
    rcases hS with ⟨rfl, q⟩ | ⟨rfl, q⟩
    · omega
    · rw [size_zero]; omega
  have sb : ∀ i, i < 8 * S.size → bitS S i = if i < 8 * key.size then bitS key i else 0 := fun i hi => by
    rcases hS with ⟨rfl, q⟩ | ⟨rfl, q⟩
    · rw [if_pos hi]
    · exact bitS_zero key i
  refine ⟨⟨errF_of (n := 1) (by omega) (by omega) (by omega), fun _ => ?_, fun e => absurd rfl e⟩, by omega⟩
  show putT S bs.length 1 (BitVec.ofNat 128 b.toNat) = _
  refine (isKey_more (T := putT S bs.length 1 (BitVec.ofNat 128 b.toNat)) h hl (by rw [putT_size]; exact ss) fun i hi => ?_).eq
  rw [putT_size] at hi
  rw [bitS_put _ _ _ _ _ hi]
  unfold putB
  by_cases c : i = bs.length
  · subst c
    rw [if_pos (by omega), if_pos rfl]
    have e : bs.length + 1 - 1 - bs.length = 0 := by omega
    rw [e]
    cases b <;> rfl
  · rw [if_neg (by omega), if_neg c]
    exact sb i hi
set_option maxHeartbeats 1000000 in
theorem jlonger_c {bs : List Bool} (hl : bs.length < 256) (b : Bool) {n x : Int} (hn : n = (bs.length : Int)) (hx : x = (b.toNat : Int)) (w : World) :
    Calls Try.prog 34 #[.string (keyJ bs), .int .i64 n, .int .u64 x] w fun e w' => e = .returned (.string (keyJ (bs ++ [b]))) ∧ Wider w w' := by
  have hk := keyJ_is (bs := bs) (by omega)
  have hs := hk.size_le
  have hw : IsW 0 x (BitVec.ofNat 128 b.toNat) := by rw [hx]; exact isW_bit (toNat_le b)
  obtain ⟨m, hm⟩ : ∃ m, bs.length = m := ⟨_, rfl⟩
  obtain ⟨T, hT⟩ : ∃ T, keyJ (bs ++ [b]) = T := ⟨_, rfl⟩
  obtain ⟨S, hS⟩ : ∃ S, keyJ bs = S := ⟨_, rfl⟩
  by_cases c : m % 8 = 0
  · obtain ⟨p1, p2⟩ := putJ (S := keyJ bs ++ zeroB) hk hl b (.inr ⟨rfl, by omega⟩)
    rw [hT, hS, hm] at p1
    rw [hS] at hs p2
    rw [hT, hS]
    rw [hm] at hn hl
    subst hn
    have zp := fun w => put_g (S ++ zeroB) (m : Int) 1 (BitVec.ofNat 128 b.toNat) (by omega) (by omega) (by omega) (by omega) (by omega) hw p1 w
    have e0 : (((m : Int) % 8) == 0) = true := by rw [beq_iff_eq]; omega
    have e1 : Int.tmod (m : Int) 8 = (m : Int) % 8 := Int.tmod_eq_emod_of_nonneg (by omega)
    have z1 : zeroB.size = 1 := rfl
    clear hk hw hm hT hS p1 hx c
    go_enter Try.func34, Try.ntmps34
    go_wp2_with (first
      | (go_at_call 36; ((with_reducible refine (zp _).mono ?_); rintro e w3 ⟨rfl, g⟩)))
    go_ret
    exact ⟨rfl, g⟩
  · obtain ⟨p1, p2⟩ := putJ (S := keyJ bs) hk hl b (.inl ⟨rfl, by omega⟩)
    rw [hT, hS, hm] at p1
    rw [hS] at hs p2
    rw [hT, hS]
    rw [hm] at hn hl
    subst hn
    have zp := fun w => put_g S (m : Int) 1 (BitVec.ofNat 128 b.toNat) (by omega) (by omega) (by omega) (by omega) (by omega) hw p1 w
    have e0 : (((m : Int) % 8) == 0) = false := by rw [beq_eq_false_iff_ne]; omega
    have e1 : Int.tmod (m : Int) 8 = (m : Int) % 8 := Int.tmod_eq_emod_of_nonneg (by omega)
    clear hk hw hm hT hS p1 hx c
    go_enter Try.func34, Try.ntmps34
    go_wp2_with (first
      | (go_at_call 36; ((with_reducible refine (zp _).mono ?_); rintro e w3 ⟨rfl, g⟩)))
    go_ret
    exact ⟨rfl, g⟩

/-! ### list, All -/
def cellI (x : List Bool × Int) : List Value := [.string (keyJ x.1), .int .i64 (x.1.length : Int), .int .i64 x.2]
def cellsI (l : List (List Bool × Int)) : List Value := l.flatMap cellI
theorem cellsI_length (l : List (List Bool × Int)) : (cellsI l).length = l.length * 3 := by
  induction l with
  | nil => rfl
  | cons x l ih => show (cellI x ++ cellsI l).length = _; rw [List.length_append, ih, List.length_cons]; simp [cellI]; omega
theorem cellsI_append (l m : List (List Bool × Int)) : cellsI (l ++ m) = cellsI l ++ cellsI m := by simp [cellsI]
theorem cellsI_one (l : List (List Bool × Int)) : ∀ u ∈ cellsI l, u.oneCell' = true := by
  intro u hu
  obtain ⟨x, _, hx⟩ := List.mem_flatMap.1 hu
  simp only [cellI, List.mem_cons, List.not_mem_nil, or_false] at hx
  rcases hx with rfl | rfl | rfl <;> rfl
theorem infoItem : (Try.prog.info? 46).map (fun i => (i.zero, i.size, i.bytes)) = some (some (.agg #[.string ⟨#[]⟩, .int .i64 0, .int .i64 0]), 3, 32) := by kernel_rfl
theorem lies3 (w : World) (u v x : Value) (t : TypeId) (hu : u.oneCell' = true) (hv : v.oneCell' = true) (hx : x.oneCell' = true) :
    (∀ (j : Nat) (y : Value), ([u, v, x] : List Value)[j]? = some y → (w.alloc (.cells #[u, v, x] t)).cell? ((⟨w.heap.size, 0, none⟩ : Addr).add j) = some y) ∧ (∀ y ∈ ([u, v, x] : List Value), y.oneCell' = true) := by
  refine ⟨fun j y hj => ?_, fun y hy => ?_⟩
  · match j, hj with
    | 0, hj => simp at hj; subst hj; simp [Addr.add, go_sem]
    | 1, hj => simp at hj; subst hj; simp [Addr.add, go_sem]
    | 2, hj => simp at hj; subst hj; simp [Addr.add, go_sem]
    | j + 3, hj => simp at hj
  · simp only [List.mem_cons, List.not_mem_nil, or_false] at hy
    rcases hy with rfl | rfl | rfl
    · exact hu
    · exact hv
    · exact hx
/-- What list appends at a node, and behind its branches. -/
def stageJ (xs : List (List Bool × Int)) (p : List Bool) (l r : Tr) : Nat → List (List Bool × Int)
  | 0 => xs
  | 1 => xs ++ l.all (p ++ [false])
  | _ => xs ++ l.all (p ++ [false]) ++ r.all (p ++ [true])
abbrev rowI (sv : Value) (n : Nat) (xs : List (List Bool × Int)) : Thing := rowT 46 3 sv n (cellsI xs)
/-- What list does from a node on. -/
def ListsJ (s : TB) : Prop := s ≠ .nil → ∀ (p : List Bool) (m : Nat) {V w : World} {R : List Thing} (xs : List (List Bool × Int)) (A : Option Addr) (n c : Nat), s.At V → s.tr.Lim m → p.length + m ≤ 257 → xs.length = n → n + s.tr.count ≤ 1000000 → Own V w (rowI (.slice A n c) n xs :: R) →
    ∀ (k : Int), k = (p.length : Int) → Calls Try.prog 29 #[s.ptr, .slice A n c, .string (keyJ p), .int .i64 k] w fun e w' => ∃ A' n' c', e = .returned (.slice A' n' c') ∧ (xs ++ s.tr.all p).length = n' ∧ Own V w' (rowI (.slice A' n' c') n' (xs ++ s.tr.all p) :: R)
theorem wpList_index {P : Program} {ops : Array Oper} {rest : List Oper} {op : Oper} {a : Act} {w : World} {Q : Exit → Act → World → Prop} (hgd : op.guard = none) (t : TypeId) (x i : Operand) (hop : op.op = .index t x i)
    {vx vi v : Value} (hx : a.eval x = vx) (hi : a.eval i = vi) (hrun : (Instr.index t vx vi).run P w = .ok v w) (h : wpList P ops Q rest (a.put op.dst v) w) : wpList P ops Q (op :: rest) a w := by
  subst hx hi
  refine wpList_plain hgd fun _ hK => ?_
  have hh := hK _ _ h
  unfold Oper.wp execOp
  simp only [hop, Sem.run_bind, hrun, Result.andThen_ok, Sem.run_pure]
  exact hh
theorem run_index0 (p q : Value) (w : World) : (Instr.index 25 (.agg #[p, q]) (.int .i64 0)).run Try.prog w = .ok p w := by kernel_rfl
theorem run_index1 (p q : Value) (w : World) : (Instr.index 25 (.agg #[p, q]) (.int .i64 1)).run Try.prog w = .ok q w := by kernel_rfl
theorem ptr_cases (s : TB) : (s = .nil ∧ s.ptr = .pointer none) ∨ (s ≠ .nil ∧ ∃ B, s.ptr = .pointer (some ⟨B, 0, none⟩)) := by
  cases s with
  | nil => exact .inl ⟨rfl, rfl⟩
  | node B c v l r => exact .inr ⟨by simp, B, rfl⟩
theorem lim_pos {s : TB} (h : s ≠ .nil) {m : Nat} (k : s.tr.Lim m) : 1 ≤ m := by
  cases s with
  | nil => exact absurd rfl h
  | node B c v l r => obtain ⟨j, e, _⟩ := k; omega
theorem stage_1 (xs : List (List Bool × Int)) (p : List Bool) (l r : Tr) : stageJ xs p l r 0 ++ l.all (p ++ [false]) = stageJ xs p l r 1 := rfl
theorem stage_2 (xs : List (List Bool × Int)) (p : List Bool) (l r : Tr) : stageJ xs p l r 1 ++ r.all (p ++ [true]) = stageJ xs p l r 2 := rfl
def headJ (v : Option Int) (p : List Bool) : List (List Bool × Int) := match v with | none => [] | some x => [(p, x)]
theorem stage_all (xs : List (List Bool × Int)) (p : List Bool) (v : Option Int) (l r : Tr) : stageJ (xs ++ headJ v p) p l r 2 = xs ++ (Tr.node v l r).all p := by
  show xs ++ headJ v p ++ l.all (p ++ [false]) ++ r.all (p ++ [true]) = xs ++ (headJ v p ++ (l.all (p ++ [false]) ++ r.all (p ++ [true])))
  simp only [List.append_assoc]
set_option maxRecDepth 20000 in
set_option maxHeartbeats 4000000 in
theorem jlist_c : ∀ s : TB, ListsJ s
  | .nil => fun h => absurd rfl h
  | .node B cn v l r => by
    have il := Lib.hid (jlist_c l)
    have ir := Lib.hid (jlist_c r)
    intro _ p m V w R xs A n c hat hlim hpm hn hcount H k hk
    obtain ⟨m, rfl, hl1, hl2⟩ := hlim
    have hcl : n + ((if v = none then 0 else 1) + l.tr.count + r.tr.count) ≤ 1000000 := hcount
    have e0 : (TB.node B cn v l r).ptr = .pointer (some ⟨B, 0, none⟩) := rfl
    rw [e0]
    obtain ⟨P, hP⟩ : ∃ P, keyJ p = P := ⟨_, rfl⟩
    have hB := (wheap H.wider ((Array.getElem?_eq_some_iff.1 hat.1).1)).trans hat.1
    have c0 := blk_cell hB 0 (cellsJ_0 cn v l.ptr r.ptr)
    have c1 := blk_cell hB 1 (cellsJ_1 cn v l.ptr r.ptr)
    have c2 := blk_cell hB 2 (cellsJ_2 cn v l.ptr r.ptr)
    have c3 := blk_cell hB 3 (cellsJ_3 cn v l.ptr r.ptr)
    obtain ⟨pl, hpl⟩ : ∃ pl, l.ptr = pl := ⟨_, rfl⟩
    obtain ⟨pr, hpr⟩ : ∃ pr, r.ptr = pr := ⟨_, rfl⟩
    rw [hpl] at c0
    rw [hpr] at c1
    rw [hP]
    have hll : ∀ q, (l.tr.all q).length = l.tr.count := Tr.all_length l.tr
    have hrl : ∀ q, (r.tr.all q).length = r.tr.count := Tr.all_length r.tr
    have hsz : (Try.prog.types[24]'(by decide +kernel)).size = 1 := by kernel_rfl
    have i1 : IntKind.i64.wrap (k + 1) = k + 1 := by simp [IntKind.wrap, IntKind.bits, IntKind.signed]; omega
    have HX := Lib.hid hn
    have HLT := Lib.hid (Array.getElem?_eq_some_iff.1 hat.1).1
    have HBB := Lib.hid hat.1
    have HK := Lib.hid hk
    have HPP := Lib.hid hP
    have HAL := Lib.hid hat.2.1
    have HAR := Lib.hid hat.2.2
    have HL1 := Lib.hid hl1
    have HL2 := Lib.hid hl2
    have HPM := Lib.hid hpm
    have HCC := Lib.hid hcl
    have HLL := Lib.hid hll
    have HRL := Lib.hid hrl
    have HPL := Lib.hid hpl
    have HPR := Lib.hid hpr
    clear hk hP hat hl1 hl2 hpm hcl hll hrl hcount hB e0 hpl hpr hn
    cases v with
    | none =>
      simp only [Option.isSome_none] at c3
      clear c2
      go_enter Try.func29, Try.ntmps29
      go_wp2
      obtain ⟨xs1, hxs1⟩ : ∃ xs1, xs ++ headJ none p = xs1 := ⟨_, rfl⟩
      have H1 : ∃ A1 n1 c1, (.slice A n c : Value) = .slice A1 n1 c1 ∧ xs1.length = n1 ∧ n1 = n + 0 ∧ Own V w (rowI (.slice A1 n1 c1) n1 xs1 :: R) := ⟨_, _, _, rfl, by rw [← hxs1]; show (xs ++ []).length = _; rw [List.length_append, HX.out]; rfl, rfl, by rw [← hxs1]; exact (by show Own V w (rowI (.slice A n c) n (xs ++ []) :: R); rw [List.append_nil]; exact H)⟩
      obtain ⟨A1, n1, c1', hv, hx1, hn1, H1⟩ := H1
      have HX1 := Lib.hid hx1
      have HXS := Lib.hid hxs1
      have HN1 := Lib.hid hn1
      clear H hx1 hxs1 hn1
      go_loopw [1, 29] (fun sv i wr => ∃ (j : Nat) (A1 : Option Addr) (n1 c1 : Nat), sv = .slice A1 n1 c1 ∧ Hid ((stageJ xs1 p l.tr r.tr j).length = n1) ∧ Own V wr (rowI (.slice A1 n1 c1) n1 (stageJ xs1 p l.tr r.tr j) :: R) ∧ (j = 0 ∧ i = .int .i64 0 ∨ j = 1 ∧ i = .int .i64 1 ∨ j = 2 ∧ i = .int .i64 2)) (fun _ i _ => 2 - (intOf i).toNat)
      case atStart => exact ⟨0, A1, n1, c1', hv, HX1, H1, .inl ⟨rfl, rfl⟩⟩
      case round =>
        clear H1
        obtain ⟨j, A2, n2, c2', rfl, HSL, H2, ⟨rfl, rfl⟩ | ⟨rfl, rfl⟩ | ⟨rfl, rfl⟩⟩ := hrel
        · rcases ptr_cases l with ⟨el, ep⟩ | ⟨ne, B2, ep⟩
          · rw [HPL.out] at ep
            subst ep
            have HN : Hid (stageJ xs1 p l.tr r.tr 0 = stageJ xs1 p l.tr r.tr 1) := Lib.hid (by rw [← stage_1, el]; exact (List.append_nil _).symm)
            clear el
            rw [HN.out] at H2 HSL
            go_wp2_with (first
              | (with_reducible refine wpList_index rfl 25 (.tmp 28) (.tmp 29) rfl (vx := .agg #[.pointer none, pr]) (vi := .int .i64 0) rfl rfl (run_index0 _ _ _) ?_))
            go_roundw
            case rel => exact ⟨1, A2, n2, c2', rfl, HSL, H2, .inr (.inl ⟨rfl, rfl⟩)⟩
            case measure => simp [intOf]
          · rw [HPL.out] at ep
            subst ep
            have zl := fun w => jlonger_c (bs := p) (by have := lim_pos ne HL1.out; have := HPM.out; omega) false HK.out (x := 0) rfl w
            rw [HPP.out] at zl
            have hsl := HSL.out
            have zi := fun w1 (K : Own V w1 (rowI (.slice A2 n2 c2') n2 (stageJ xs1 p l.tr r.tr 0) :: R)) => il.out ne (p ++ [false]) m _ A2 n2 c2' HAL.out HL1.out (by have := HPM.out; rw [List.length_append]; simp; omega) hsl (by have e1 := HX1.out; have e2 := HN1.out; have e3 := HCC.out; have e4 : xs1.length = n2 := hsl; simp only [if_true] at e3; omega) K (k + 1) (by rw [HK.out]; simp)
            rw [HPL.out] at zi
            have ZI := Lib.hid zi
            clear zi hsl
            go_wp2_with (first
              | (with_reducible refine wpList_index rfl 25 (.tmp 28) (.tmp 29) rfl (vx := .agg #[.pointer (some ⟨B2, 0, none⟩), pr]) (vi := .int .i64 0) rfl rfl (run_index0 _ _ _) ?_)
              | (go_at_call 34; ((with_reducible refine (zl _).mono ?_); rintro e w3 ⟨rfl, g⟩; replace H2 := H2.quiet g; clear g))
              | (go_at_call 29; ((with_reducible refine (ZI.out _ H2).mono ?_); rintro e w4 ⟨A3, n3, c3', rfl, hl3, H3⟩; have HL3 := Lib.hid hl3; clear hl3)))
            go_roundw
            case rel => exact ⟨1, A3, n3, c3', rfl, HL3, H3, .inr (.inl ⟨rfl, rfl⟩)⟩
            case measure => simp [intOf]
        · rcases ptr_cases r with ⟨el, ep⟩ | ⟨ne, B2, ep⟩
          · rw [HPR.out] at ep
            subst ep
            have HN : Hid (stageJ xs1 p l.tr r.tr 1 = stageJ xs1 p l.tr r.tr 2) := Lib.hid (by rw [← stage_2, el]; exact (List.append_nil _).symm)
            clear el
            rw [HN.out] at H2 HSL
            go_wp2_with (first
              | (with_reducible refine wpList_index rfl 25 (.tmp 28) (.tmp 29) rfl (vx := .agg #[pl, .pointer none]) (vi := .int .i64 1) rfl rfl (run_index1 _ _ _) ?_))
            go_roundw
            case rel => exact ⟨2, A2, n2, c2', rfl, HSL, H2, .inr (.inr ⟨rfl, rfl⟩)⟩
            case measure => simp [intOf]
          · rw [HPR.out] at ep
            subst ep
            have zl := fun w => jlonger_c (bs := p) (by have := lim_pos ne HL2.out; have := HPM.out; omega) true HK.out (x := 1) rfl w
            rw [HPP.out] at zl
            have hsl := HSL.out
            have zi := fun w1 (K : Own V w1 (rowI (.slice A2 n2 c2') n2 (stageJ xs1 p l.tr r.tr 1) :: R)) => ir.out ne (p ++ [true]) m _ A2 n2 c2' HAR.out HL2.out (by have := HPM.out; rw [List.length_append]; simp; omega) hsl (by have e1 := HX1.out; have e2 := HN1.out; have e3 := HCC.out; have e4 : (xs1 ++ l.tr.all (p ++ [false])).length = n2 := hsl; rw [List.length_append, HLL.out] at e4; simp only [if_true] at e3; omega) K (k + 1) (by rw [HK.out]; simp)
            rw [HPR.out] at zi
            have ZI := Lib.hid zi
            clear zi hsl
            go_wp2_with (first
              | (with_reducible refine wpList_index rfl 25 (.tmp 28) (.tmp 29) rfl (vx := .agg #[pl, .pointer (some ⟨B2, 0, none⟩)]) (vi := .int .i64 1) rfl rfl (run_index1 _ _ _) ?_)
              | (go_at_call 34; ((with_reducible refine (zl _).mono ?_); rintro e w3 ⟨rfl, g⟩; replace H2 := H2.quiet g; clear g))
              | (go_at_call 29; ((with_reducible refine (ZI.out _ H2).mono ?_); rintro e w4 ⟨A3, n3, c3', rfl, hl3, H3⟩; have HL3 := Lib.hid hl3; clear hl3)))
            go_roundw
            case rel => exact ⟨2, A3, n3, c3', rfl, HL3, H3, .inr (.inr ⟨rfl, rfl⟩)⟩
            case measure => simp [intOf]
        · have HALL : Hid (stageJ xs1 p l.tr r.tr 2 = xs ++ (TB.node B cn none l r).tr.all p) := Lib.hid (by rw [← HXS.out]; exact stage_all xs p none l.tr r.tr)
          rw [HALL.out] at H2 HSL
          go_wp2
          go_ret
          exact ⟨A2, n2, c2', rfl, by first | exact HSL.out | (have := HSL.out; rw [List.length_append] at this; exact this), H2⟩
    | some x =>
      simp only [Option.isSome_some, Option.getD_some] at c2 c3
      obtain ⟨i0, hi, hz0, hz1, hz2⟩ := info_parts infoItem
      have S5 : Hid (n + 1 ≤ maxLen) := by have := HCC.out; show _ ≤ maxLen; unfold maxLen; omega
      have S6 : Hid ((n + 1) * 32 ≤ 140737488355328) := by have := HCC.out; show _ ≤ _; omega
      have SN : Hid (cellsI xs ++ [.string P, .int .i64 k, .int .i64 x] = cellsI (xs ++ headJ (some x) p)) := Lib.hid (by rw [cellsI_append, HK.out, ← HPP.out]; rfl)
      have SIDE := Lib.hid (lies3 w (.string P) (.int .i64 k) (.int .i64 x) 46 rfl rfl rfl)
      have H0 := Lib.hid (H.quiet ((Wider.refl w).alloc (.cells #[.string P, .int .i64 k, .int .i64 x] 46)))
      have d0 := fun o => kalloc (o := o) c0
      have d1 := fun o => kalloc (o := o) c1
      clear c0 c1
      go_enter Try.func29, Try.ntmps29
      go_upto_region 3 with (first
        | (at_builtin; refine wpList_append_thing rfl (.tmp 15) (.tmp 23) 39 rfl 46 i0 (.agg #[.string ⟨#[]⟩, .int .i64 0, .int .i64 0]) 3 32 Try.underlying39 hi hz0 hz1 hz2 rfl (by decide) (.slice A n c) n (cellsI xs) rfl H0.out (some ⟨w.heap.size, 0, none⟩) 1 1 [.string P, .int .i64 k, .int .i64 x] rfl rfl (fun e => by cases e) (fun a e => by cases e; exact SIDE.out.1) SIDE.out.2 S5.out S6.out rfl SN.out ?_; intro B3 c3 w6 H7))
      have hB2 := (wheap H7.wider HLT.out).trans HBB.out
      have c0 := blk_cell hB2 0 (cellsJ_0 cn (some x) l.ptr r.ptr)
      have c1 := blk_cell hB2 1 (cellsJ_1 cn (some x) l.ptr r.ptr)
      rw [HPL.out] at c0
      rw [HPR.out] at c1
      clear hB2
      go_wp2
      obtain ⟨xs1, hxs1⟩ : ∃ xs1, xs ++ headJ (some x) p = xs1 := ⟨_, rfl⟩
      have H1 : ∃ A1 n1 c1, (.slice B3 (n + 1) c3 : Value) = .slice A1 n1 c1 ∧ xs1.length = n1 ∧ n1 = n + 1 ∧ Own V w6 (rowI (.slice A1 n1 c1) n1 xs1 :: R) := ⟨_, _, _, rfl, by rw [← hxs1]; show (xs ++ [(p, x)]).length = _; rw [List.length_append, HX.out]; rfl, rfl, by rw [← hxs1]; exact H7⟩
      obtain ⟨A1, n1, c1', hv, hx1, hn1, H1⟩ := H1
      have HX1 := Lib.hid hx1
      have HXS := Lib.hid hxs1
      have HN1 := Lib.hid hn1
      clear H hx1 hxs1 hn1
      go_loopw [1, 29] (fun sv i wr => ∃ (j : Nat) (A1 : Option Addr) (n1 c1 : Nat), sv = .slice A1 n1 c1 ∧ Hid ((stageJ xs1 p l.tr r.tr j).length = n1) ∧ Own V wr (rowI (.slice A1 n1 c1) n1 (stageJ xs1 p l.tr r.tr j) :: R) ∧ (j = 0 ∧ i = .int .i64 0 ∨ j = 1 ∧ i = .int .i64 1 ∨ j = 2 ∧ i = .int .i64 2)) (fun _ i _ => 2 - (intOf i).toNat)
      case atStart => exact ⟨0, A1, n1, c1', hv, HX1, H1, .inl ⟨rfl, rfl⟩⟩
      case round =>
        clear H1
        obtain ⟨j, A2, n2, c2', rfl, HSL, H2, ⟨rfl, rfl⟩ | ⟨rfl, rfl⟩ | ⟨rfl, rfl⟩⟩ := hrel
        · rcases ptr_cases l with ⟨el, ep⟩ | ⟨ne, B2, ep⟩
          · rw [HPL.out] at ep
            subst ep
            have HN : Hid (stageJ xs1 p l.tr r.tr 0 = stageJ xs1 p l.tr r.tr 1) := Lib.hid (by rw [← stage_1, el]; exact (List.append_nil _).symm)
            clear el
            rw [HN.out] at H2 HSL
            go_wp2_with (first
              | (with_reducible refine wpList_index rfl 25 (.tmp 28) (.tmp 29) rfl (vx := .agg #[.pointer none, pr]) (vi := .int .i64 0) rfl rfl (run_index0 _ _ _) ?_))
            go_roundw
            case rel => exact ⟨1, A2, n2, c2', rfl, HSL, H2, .inr (.inl ⟨rfl, rfl⟩)⟩
            case measure => simp [intOf]
          · rw [HPL.out] at ep
            subst ep
            have zl := fun w => jlonger_c (bs := p) (by have := lim_pos ne HL1.out; have := HPM.out; omega) false HK.out (x := 0) rfl w
            rw [HPP.out] at zl
            have hsl := HSL.out
            have zi := fun w1 (K : Own V w1 (rowI (.slice A2 n2 c2') n2 (stageJ xs1 p l.tr r.tr 0) :: R)) => il.out ne (p ++ [false]) m _ A2 n2 c2' HAL.out HL1.out (by have := HPM.out; rw [List.length_append]; simp; omega) hsl (by have e1 := HX1.out; have e2 := HN1.out; have e3 := HCC.out; have e4 : xs1.length = n2 := hsl; simp only [if_neg (by simp : ¬ (some x : Option Int) = none)] at e3; omega) K (k + 1) (by rw [HK.out]; simp)
            rw [HPL.out] at zi
            have ZI := Lib.hid zi
            clear zi hsl
            go_wp2_with (first
              | (with_reducible refine wpList_index rfl 25 (.tmp 28) (.tmp 29) rfl (vx := .agg #[.pointer (some ⟨B2, 0, none⟩), pr]) (vi := .int .i64 0) rfl rfl (run_index0 _ _ _) ?_)
              | (go_at_call 34; ((with_reducible refine (zl _).mono ?_); rintro e w3 ⟨rfl, g⟩; replace H2 := H2.quiet g; clear g))
              | (go_at_call 29; ((with_reducible refine (ZI.out _ H2).mono ?_); rintro e w4 ⟨A3, n3, c3', rfl, hl3, H3⟩; have HL3 := Lib.hid hl3; clear hl3)))
            go_roundw
            case rel => exact ⟨1, A3, n3, c3', rfl, HL3, H3, .inr (.inl ⟨rfl, rfl⟩)⟩
            case measure => simp [intOf]
        · rcases ptr_cases r with ⟨el, ep⟩ | ⟨ne, B2, ep⟩
          · rw [HPR.out] at ep
            subst ep
            have HN : Hid (stageJ xs1 p l.tr r.tr 1 = stageJ xs1 p l.tr r.tr 2) := Lib.hid (by rw [← stage_2, el]; exact (List.append_nil _).symm)
            clear el
            rw [HN.out] at H2 HSL
            go_wp2_with (first
              | (with_reducible refine wpList_index rfl 25 (.tmp 28) (.tmp 29) rfl (vx := .agg #[pl, .pointer none]) (vi := .int .i64 1) rfl rfl (run_index1 _ _ _) ?_))
            go_roundw
            case rel => exact ⟨2, A2, n2, c2', rfl, HSL, H2, .inr (.inr ⟨rfl, rfl⟩)⟩
            case measure => simp [intOf]
          · rw [HPR.out] at ep
            subst ep
            have zl := fun w => jlonger_c (bs := p) (by have := lim_pos ne HL2.out; have := HPM.out; omega) true HK.out (x := 1) rfl w
            rw [HPP.out] at zl
            have hsl := HSL.out
            have zi := fun w1 (K : Own V w1 (rowI (.slice A2 n2 c2') n2 (stageJ xs1 p l.tr r.tr 1) :: R)) => ir.out ne (p ++ [true]) m _ A2 n2 c2' HAR.out HL2.out (by have := HPM.out; rw [List.length_append]; simp; omega) hsl (by have e1 := HX1.out; have e2 := HN1.out; have e3 := HCC.out; have e4 : (xs1 ++ l.tr.all (p ++ [false])).length = n2 := hsl; rw [List.length_append, HLL.out] at e4; simp only [if_neg (by simp : ¬ (some x : Option Int) = none)] at e3; omega) K (k + 1) (by rw [HK.out]; simp)
            rw [HPR.out] at zi
            have ZI := Lib.hid zi
            clear zi hsl
            go_wp2_with (first
              | (with_reducible refine wpList_index rfl 25 (.tmp 28) (.tmp 29) rfl (vx := .agg #[pl, .pointer (some ⟨B2, 0, none⟩)]) (vi := .int .i64 1) rfl rfl (run_index1 _ _ _) ?_)
              | (go_at_call 34; ((with_reducible refine (zl _).mono ?_); rintro e w3 ⟨rfl, g⟩; replace H2 := H2.quiet g; clear g))
              | (go_at_call 29; ((with_reducible refine (ZI.out _ H2).mono ?_); rintro e w4 ⟨A3, n3, c3', rfl, hl3, H3⟩; have HL3 := Lib.hid hl3; clear hl3)))
            go_roundw
            case rel => exact ⟨2, A3, n3, c3', rfl, HL3, H3, .inr (.inr ⟨rfl, rfl⟩)⟩
            case measure => simp [intOf]
        · have HALL : Hid (stageJ xs1 p l.tr r.tr 2 = xs ++ (TB.node B cn (some x) l r).tr.all p) := Lib.hid (by rw [← HXS.out]; exact stage_all xs p (some x) l.tr r.tr)
          rw [HALL.out] at H2 HSL
          go_wp2
          go_ret
          exact ⟨A2, n2, c2', rfl, by first | exact HSL.out | (have := HSL.out; rw [List.length_append] at this; exact this), H2⟩
end Go.Proofs.Ytjnccpbedffijaa
