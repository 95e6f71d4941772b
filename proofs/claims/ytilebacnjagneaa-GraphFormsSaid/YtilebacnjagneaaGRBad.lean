/- Package graph: the document's Form, where it refuses by a node's heads: by walks of its code. -/
import Derived.Test.YtilebacnjagneaaGLong
namespace Go.Proofs.Ytilebacnjagneaa
set_option linter.unusedVariables false
open Go.ChangeShapes Go.WideShapes Go.ChangeAt Go.RowKit Go.Joins

def rangeA (l : List (Int × Int)) : Bool := l.all fun p => decide (0 ≤ p.2) && decide (p.2 ≤ 65535)
theorem nextF_eq (x : NodV) : nextF x = (rangeA x.arms && (decide (0 ≤ x.oth) && decide (x.oth ≤ 65535))) := by
  unfold nextF NodV.goes rangeA
  rw [List.all_append, List.all_map]
  simp [Function.comp_def]
structure HeadF (x : NodV) : Prop where
  i0 : 1 ≤ x.id
  i1 : x.id ≤ 65534
  s0 : 0 ≤ x.size
  s1 : x.size ≤ 256
  o0 : 0 ≤ x.oth
  o1 : x.oth ≤ 65535
def LenQ (x : NodV) : Prop := (x.lw = 0 ∧ x.lo = 0 ∧ x.lu = 0) ∨ (1 ≤ x.lw ∧ x.lw ≤ 16 ∧ 1 ≤ x.lu ∧ x.lu ≤ 256 ∧ 0 ≤ x.lo ∧ x.lo ≤ 2048)
def SelQ (x : NodV) : Prop := (x.sw = 0 ∧ x.so = 0 ∧ x.arms.length = 0) ∨ (1 ≤ x.sw ∧ x.sw ≤ 32 ∧ 0 ≤ x.so ∧ x.so ≤ 2048 ∧ x.arms.length ≤ 32)
theorem lenQ_of {x : NodV} (h : lenF x = true) : LenQ x := by
  unfold lenF at h
  split at h
  · simp only [Bool.and_eq_true, decide_eq_true_eq] at h
    exact .inl ⟨by assumption, h.1, h.2⟩
  · simp only [Bool.and_eq_true, decide_eq_true_eq] at h
    exact .inr ⟨h.1.1.1.1.1, h.1.1.1.1.2, h.1.1.1.2, h.1.1.2, h.1.2, h.2⟩
theorem selQ_of {x : NodV} (h : selF x = true) : SelQ x := by
  unfold selF at h
  split at h
  · simp only [Bool.and_eq_true, decide_eq_true_eq] at h
    exact .inl ⟨by assumption, h.1, h.2⟩
  · simp only [Bool.and_eq_true, decide_eq_true_eq] at h
    exact .inr ⟨h.1.1.1.1.1, h.1.1.1.1.2, h.1.1.1.2, h.1.1.2, h.1.2⟩
theorem formG_heads {x : NodV} (h : formG x = true) : HeadF x ∧ LenQ x ∧ SelQ x := by
  simp only [formG, nextF_eq, Bool.and_eq_true, decide_eq_true_eq] at h
  exact ⟨⟨h.1.1.1.1.1.1, h.1.1.1.1.1.2, h.1.1.1.1.2, h.1.1.1.2, h.2.2.1, h.2.2.2⟩, lenQ_of h.1.1.2, selQ_of h.1.2⟩
theorem form_not {x : NodV} (h : ¬ (HeadF x ∧ LenQ x ∧ SelQ x)) : formG x = false := Bool.eq_false_iff.2 fun q => h (formG_heads q)
theorem formG_of {x : NodV} (h : HeadF x) (hl : LenQ x) (hs : SelQ x) : formG x = (riseAG x.sw.toNat (-1) x.arms && rangeA x.arms) := by
  have e1 : lenF x = true := by
    unfold lenF
    rcases hl with ⟨a, b, c⟩ | ⟨a, b, c, d, e, f⟩
    · rw [if_pos a, b, c]; rfl
    · rw [if_neg (by omega)]; simp [a, b, c, d, e, f]
  have e2 : selF x = riseAG x.sw.toNat (-1) x.arms := by
    unfold selF
    rcases hs with ⟨a, b, c⟩ | ⟨a, b, c, d, e⟩
    · have : x.arms = [] := List.eq_nil_of_length_eq_zero c
      rw [if_pos a, b, this]; rfl
    · rw [if_neg (by omega)]; simp [a, b, c, d, e]
  unfold formG
  rw [e1, e2, nextF_eq]
  simp [h.i0, h.i1, h.s0, h.s1, h.o0, h.o1]
theorem rangeA_append (a b : List (Int × Int)) : rangeA (a ++ b) = (rangeA a && rangeA b) := List.all_append
theorem armsR_cut {k : Nat} {l : List (Int × Int)} (i : Nat) (h : (riseAG k (-1) (l.take i) && rangeA (l.take i)) = false) : (riseAG k (-1) l && rangeA l) = false := by
  have e1 : riseAG k (-1) l = (riseAG k (-1) (l.take i) && riseAG k (lastAG (-1) (l.take i)) (l.drop i)) := by rw [← riseAG_append, List.take_append_drop]
  have e2 : rangeA l = (rangeA (l.take i) && rangeA (l.drop i)) := by rw [← rangeA_append, List.take_append_drop]
  rw [e1, e2]
  cases a : riseAG k (-1) (l.take i) with
  | false => rfl
  | true =>
    rw [a] at h
    have h : rangeA (l.take i) = false := h
    rw [h]
    simp
def LenBad (lo lw lu : Int) : Prop := (lw = 0 ∧ (lo ≠ 0 ∨ (lo = 0 ∧ lu ≠ 0))) ∨ (lw ≠ 0 ∧ ¬ (1 ≤ lw ∧ lw ≤ 16 ∧ 1 ≤ lu ∧ lu ≤ 256 ∧ 0 ≤ lo ∧ lo ≤ 2048))
def SelBad (so sw : Int) (n : Nat) : Prop := (sw = 0 ∧ (so ≠ 0 ∨ (so = 0 ∧ n ≠ 0))) ∨ (sw ≠ 0 ∧ ¬ (1 ≤ sw ∧ sw ≤ 32 ∧ 0 ≤ so ∧ so ≤ 2048 ∧ n ≤ 32))
theorem lenQ_nb {x : NodV} (h : ¬ LenBad x.lo x.lw x.lu) : LenQ x := by
  by_cases a : x.lw = 0
  · by_cases b : x.lo = 0
    · by_cases c : x.lu = 0
      · exact .inl ⟨a, b, c⟩
      · exact absurd (.inl ⟨a, .inr ⟨b, c⟩⟩) h
    · exact absurd (.inl ⟨a, .inl b⟩) h
  · by_cases b : 1 ≤ x.lw ∧ x.lw ≤ 16 ∧ 1 ≤ x.lu ∧ x.lu ≤ 256 ∧ 0 ≤ x.lo ∧ x.lo ≤ 2048
    · exact .inr b
    · exact absurd (.inr ⟨a, b⟩) h
theorem selQ_nb {x : NodV} (h : ¬ SelBad x.so x.sw x.arms.length) : SelQ x := by
  by_cases a : x.sw = 0
  · by_cases b : x.so = 0
    · by_cases c : x.arms.length = 0
      · exact .inl ⟨a, b, c⟩
      · exact absurd (.inl ⟨a, .inr ⟨b, c⟩⟩) h
    · exact absurd (.inl ⟨a, .inl b⟩) h
  · by_cases b : 1 ≤ x.sw ∧ x.sw ≤ 32 ∧ 0 ≤ x.so ∧ x.so ≤ 2048 ∧ x.arms.length ≤ 32
    · exact .inr b
    · exact absurd (.inr ⟨a, b⟩) h
set_option maxRecDepth 20000 in
set_option maxHeartbeats 16000000 in
theorem grbad_c {w : World} (x : NodV) {A : Option Addr} {n c : Nat} (hA : ArmsAt w A x.arms) (hn : x.arms.length = n) (ok : x.Ok) (hq : ¬ (HeadF x ∧ LenQ x ∧ SelQ x)) {r : Bool} (hr : formG x = r) : Calls Try.prog 15 #[nodA x A n c] w fun e w' => e = .returned (.bool r) ∧ Wider w w' := by
  have ok1 := ok.arms
  have ok2 := ok.few
  have bad := fun h => (form_not (x := x) h).symm.trans hr
  have good := fun h h2 h3 => (formG_of (x := x) h h2 h3).symm.trans hr
  obtain ⟨id, size, lo, lw, lu, so, sw, arms, oth⟩ := x
  have hn : arms.length = n := hn
  have ok1 : ArmsOk arms := ok1
  have ok2 : arms.length < 100000 := ok2
  have hA : ArmsAt w A arms := hA
  have good : HeadF ⟨id, size, lo, lw, lu, so, sw, arms, oth⟩ → LenQ ⟨id, size, lo, lw, lu, so, sw, arms, oth⟩ → SelQ ⟨id, size, lo, lw, lu, so, sw, arms, oth⟩ → (riseAG sw.toNat (-1) arms && rangeA arms) = r := good
  show Calls Try.prog 15 #[.agg #[.int .i64 id, .int .i64 size, .int .i64 lo, .int .i64 lw, .int .i64 lu, .int .i64 so, .int .i64 sw, .slice A n c, .int .i64 oth]] w _
  have H := ((Wider.refl w).alloc (.cells #[.int .i64 id, .int .i64 size, .int .i64 lo, .int .i64 lw, .int .i64 lu, .int .i64 so, .int .i64 sw, .slice A n c, .int .i64 oth] 28))
  have hA2 := hA.on H
  obtain ⟨-, -, -, -, -, -, d6, d7, -⟩ := NodeB.new w ⟨id, size, lo, lw, lu, so, sw, arms, oth⟩ A n c
  have HQ := Lib.hid hq
  clear hr ok hA hq
  by_cases h0 : id < 1
  · have e0 : decide (id < 1) = true := decide_eq_true h0
    have BD : Hid (false = r) := Lib.hid (bad fun q => by obtain ⟨q1, q2, q3⟩ := q; have := q1.i0; dsimp only at this; omega)
    clear bad good hA2 ok1 ok2 hn
    go_enter Try.func15, Try.ntmps15
    go_wp2
    go_ret
    exact ⟨by rw [← BD.out]; rfl, H⟩
  have e0 : decide (id < 1) = false := decide_eq_false h0
  by_cases h1 : 65534 < id
  · have e1 : decide (65534 < id) = true := decide_eq_true h1
    have BD : Hid (false = r) := Lib.hid (bad fun q => by obtain ⟨q1, q2, q3⟩ := q; have := q1.i1; dsimp only at this; omega)
    clear bad good hA2 ok1 ok2 hn
    go_enter Try.func15, Try.ntmps15
    go_wp2
    go_ret
    exact ⟨by rw [← BD.out]; rfl, H⟩
  have e1 : decide (65534 < id) = false := decide_eq_false h1
  by_cases h2 : size < 0
  · have e2 : decide (size < 0) = true := decide_eq_true h2
    have BD : Hid (false = r) := Lib.hid (bad fun q => by obtain ⟨q1, q2, q3⟩ := q; have := q1.s0; dsimp only at this; omega)
    clear bad good hA2 ok1 ok2 hn
    go_enter Try.func15, Try.ntmps15
    go_wp2
    go_ret
    exact ⟨by rw [← BD.out]; rfl, H⟩
  have e2 : decide (size < 0) = false := decide_eq_false h2
  by_cases h3 : 256 < size
  · have e3 : decide (256 < size) = true := decide_eq_true h3
    have BD : Hid (false = r) := Lib.hid (bad fun q => by obtain ⟨q1, q2, q3⟩ := q; have := q1.s1; dsimp only at this; omega)
    clear bad good hA2 ok1 ok2 hn
    go_enter Try.func15, Try.ntmps15
    go_wp2
    go_ret
    exact ⟨by rw [← BD.out]; rfl, H⟩
  have e3 : decide (256 < size) = false := decide_eq_false h3
  by_cases h4 : oth < 0
  · have e4 : decide (oth < 0) = true := decide_eq_true h4
    have BD : Hid (false = r) := Lib.hid (bad fun q => by obtain ⟨q1, q2, q3⟩ := q; have := q1.o0; dsimp only at this; omega)
    clear bad good hA2 ok1 ok2 hn
    go_enter Try.func15, Try.ntmps15
    go_wp2
    go_ret
    exact ⟨by rw [← BD.out]; rfl, H⟩
  have e4 : decide (oth < 0) = false := decide_eq_false h4
  by_cases h5 : 65535 < oth
  · have e5 : decide (65535 < oth) = true := decide_eq_true h5
    have BD : Hid (false = r) := Lib.hid (bad fun q => by obtain ⟨q1, q2, q3⟩ := q; have := q1.o1; dsimp only at this; omega)
    clear bad good hA2 ok1 ok2 hn
    go_enter Try.func15, Try.ntmps15
    go_wp2
    go_ret
    exact ⟨by rw [← BD.out]; rfl, H⟩
  have e5 : decide (65535 < oth) = false := decide_eq_false h5
  have hH : HeadF ⟨id, size, lo, lw, lu, so, sw, arms, oth⟩ := ⟨by dsimp only; omega, by dsimp only; omega, by dsimp only; omega, by dsimp only; omega, by dsimp only; omega, by dsimp only; omega⟩
  have HH := Lib.hid hH
  have bad2 : ¬ LenQ ⟨id, size, lo, lw, lu, so, sw, arms, oth⟩ → false = r := fun h => bad fun q => h q.2.1
  have bad3 : ¬ SelQ ⟨id, size, lo, lw, lu, so, sw, arms, oth⟩ → false = r := fun h => bad fun q => h q.2.2
  have good2 := good hH
  clear bad good hH h0 h1 h2 h3 h4 h5
  have LW : (lw = 0 ∧ lo = 0 ∧ lu = 0) ∨ ((lw == 0) = false ∧ (lw != 0) = true ∧ decide (lw < 1) = false ∧ decide (16 < lw) = false ∧ decide (lu < 1) = false ∧ decide (256 < lu) = false ∧ decide (lo < 0) = false ∧ decide (2048 < lo) = false ∧ Hid (1 ≤ lw ∧ lw ≤ 16 ∧ 1 ≤ lu ∧ lu ≤ 256 ∧ 0 ≤ lo ∧ lo ≤ 2048)) ∨ Hid (LenBad lo lw lu) := by
    by_cases a : lw = 0
    · by_cases b : lo = 0
      · by_cases c : lu = 0
        · exact .inl ⟨a, b, c⟩
        · exact .inr (.inr (Lib.hid (.inl ⟨a, .inr ⟨b, c⟩⟩)))
      · exact .inr (.inr (Lib.hid (.inl ⟨a, .inl b⟩)))
    · by_cases b : 1 ≤ lw ∧ lw ≤ 16 ∧ 1 ≤ lu ∧ lu ≤ 256 ∧ 0 ≤ lo ∧ lo ≤ 2048
      · exact .inr (.inl ⟨by simpa using a, by simpa using a, decide_eq_false (by omega), decide_eq_false (by omega), decide_eq_false (by omega), decide_eq_false (by omega), decide_eq_false (by omega), decide_eq_false (by omega), Lib.hid b⟩)
      · exact .inr (.inr (Lib.hid (.inr ⟨a, b⟩)))
  by_cases LB : LenBad lo lw lu
  · rcases LB with ⟨rfl, b | ⟨rfl, b⟩⟩ | ⟨a, b⟩
    · have f1 : (lo != 0) = true := by simpa using b
      have BD : Hid (false = r) := Lib.hid (bad2 fun q => by rcases q with q | q <;> (dsimp only at q; omega))
      clear bad2 bad3 good2 hA2 ok1 ok2
      go_enter Try.func15, Try.ntmps15
      go_wp2
      go_ret
      exact ⟨by rw [← BD.out]; rfl, H⟩
    · have f1 : (lu != 0) = true := by simpa using b
      have BD : Hid (false = r) := Lib.hid (bad2 fun q => by rcases q with q | q <;> (dsimp only at q; omega))
      clear bad2 bad3 good2 hA2 ok1 ok2
      go_enter Try.func15, Try.ntmps15
      go_wp2
      go_ret
      exact ⟨by rw [← BD.out]; rfl, H⟩
    · have f1 : (lw == 0) = false := by simpa using a
      have f2 : (lw != 0) = true := by simpa using a
      by_cases g0 : lw < 1
      · have f0 : decide (lw < 1) = true := decide_eq_true g0
        have BD : Hid (false = r) := Lib.hid (bad2 fun q => by rcases q with q | q <;> (dsimp only at q; omega))
        clear bad2 bad3 good2 hA2 ok1 ok2
        go_enter Try.func15, Try.ntmps15
        go_wp2
        go_ret
        exact ⟨by rw [← BD.out]; rfl, H⟩
      have f0 : decide (lw < 1) = false := decide_eq_false g0
      by_cases g1 : 16 < lw
      · have f1 : decide (16 < lw) = true := decide_eq_true g1
        have BD : Hid (false = r) := Lib.hid (bad2 fun q => by rcases q with q | q <;> (dsimp only at q; omega))
        clear bad2 bad3 good2 hA2 ok1 ok2
        go_enter Try.func15, Try.ntmps15
        go_wp2
        go_ret
        exact ⟨by rw [← BD.out]; rfl, H⟩
      have f1 : decide (16 < lw) = false := decide_eq_false g1
      by_cases g2 : lu < 1
      · have f2 : decide (lu < 1) = true := decide_eq_true g2
        have BD : Hid (false = r) := Lib.hid (bad2 fun q => by rcases q with q | q <;> (dsimp only at q; omega))
        clear bad2 bad3 good2 hA2 ok1 ok2
        go_enter Try.func15, Try.ntmps15
        go_wp2
        go_ret
        exact ⟨by rw [← BD.out]; rfl, H⟩
      have f2 : decide (lu < 1) = false := decide_eq_false g2
      by_cases g3 : 256 < lu
      · have f3 : decide (256 < lu) = true := decide_eq_true g3
        have BD : Hid (false = r) := Lib.hid (bad2 fun q => by rcases q with q | q <;> (dsimp only at q; omega))
        clear bad2 bad3 good2 hA2 ok1 ok2
        go_enter Try.func15, Try.ntmps15
        go_wp2
        go_ret
        exact ⟨by rw [← BD.out]; rfl, H⟩
      have f3 : decide (256 < lu) = false := decide_eq_false g3
      by_cases g4 : lo < 0
      · have f4 : decide (lo < 0) = true := decide_eq_true g4
        have BD : Hid (false = r) := Lib.hid (bad2 fun q => by rcases q with q | q <;> (dsimp only at q; omega))
        clear bad2 bad3 good2 hA2 ok1 ok2
        go_enter Try.func15, Try.ntmps15
        go_wp2
        go_ret
        exact ⟨by rw [← BD.out]; rfl, H⟩
      have f4 : decide (lo < 0) = false := decide_eq_false g4
      by_cases g5 : 2048 < lo
      · have f5 : decide (2048 < lo) = true := decide_eq_true g5
        have BD : Hid (false = r) := Lib.hid (bad2 fun q => by rcases q with q | q <;> (dsimp only at q; omega))
        clear bad2 bad3 good2 hA2 ok1 ok2
        go_enter Try.func15, Try.ntmps15
        go_wp2
        go_ret
        exact ⟨by rw [← BD.out]; rfl, H⟩
      have f5 : decide (2048 < lo) = false := decide_eq_false g5
      exact absurd ⟨by omega, by omega, by omega, by omega, by omega, by omega⟩ b
  replace LW := LW.imp_right fun h => h.resolve_right fun h => LB h.out
  have HLB := Lib.hid LB
  clear LB
  have good3 : Hid (SelQ ⟨id, size, lo, lw, lu, so, sw, arms, oth⟩ → (riseAG sw.toNat (-1) arms && rangeA arms) = r) := Lib.hid (good2 (by rcases LW with h | ⟨-, -, -, -, -, -, -, -, h⟩; exact .inl h; exact .inr h.out))
  clear bad2 good2
  by_cases SB : SelBad so sw n
  · rcases SB with ⟨rfl, b | ⟨rfl, b⟩⟩ | ⟨a, b⟩
    · have f1 : (so != 0) = true := by simpa using b
      have BD : Hid (false = r) := Lib.hid (bad3 fun q => by rcases q with q | q <;> (dsimp only at q; omega))
      clear bad3 good3 hA2 ok1 ok2
      rcases LW with ⟨rfl, rfl, rfl⟩ | ⟨l0, l1, l2, l3, l4, l5, l6, l7, -⟩ <;>
      · go_enter Try.func15, Try.ntmps15
        go_wp2
        go_ret
        exact ⟨by rw [← BD.out]; rfl, H⟩
    · have f1 : (0 : Int) < (n : Int) := by omega
      have f2 : 0 < n := by omega
      have BD : Hid (false = r) := Lib.hid (bad3 fun q => by rcases q with q | q <;> (dsimp only at q; omega))
      clear bad3 good3 hA2 ok1 ok2
      rcases LW with ⟨rfl, rfl, rfl⟩ | ⟨l0, l1, l2, l3, l4, l5, l6, l7, -⟩ <;>
      · go_enter Try.func15, Try.ntmps15
        go_wp2
        go_ret
        exact ⟨by rw [← BD.out]; rfl, H⟩
    · have f1 : (sw == 0) = false := by simpa using a
      have f2 : (sw != 0) = true := by simpa using a
      by_cases g0 : sw < 1
      · have f0 : decide (sw < 1) = true := decide_eq_true g0
        have BD : Hid (false = r) := Lib.hid (bad3 fun q => by rcases q with q | q <;> (dsimp only at q; omega))
        clear bad3 good3 hA2 ok1 ok2
        rcases LW with ⟨rfl, rfl, rfl⟩ | ⟨l0, l1, l2, l3, l4, l5, l6, l7, -⟩ <;>
        · go_enter Try.func15, Try.ntmps15
          go_wp2
          go_ret
          exact ⟨by rw [← BD.out]; rfl, H⟩
      have f0 : decide (sw < 1) = false := decide_eq_false g0
      by_cases g1 : 32 < sw
      · have f1 : decide (32 < sw) = true := decide_eq_true g1
        have BD : Hid (false = r) := Lib.hid (bad3 fun q => by rcases q with q | q <;> (dsimp only at q; omega))
        clear bad3 good3 hA2 ok1 ok2
        rcases LW with ⟨rfl, rfl, rfl⟩ | ⟨l0, l1, l2, l3, l4, l5, l6, l7, -⟩ <;>
        · go_enter Try.func15, Try.ntmps15
          go_wp2
          go_ret
          exact ⟨by rw [← BD.out]; rfl, H⟩
      have f1 : decide (32 < sw) = false := decide_eq_false g1
      by_cases g2 : so < 0
      · have f2 : decide (so < 0) = true := decide_eq_true g2
        have BD : Hid (false = r) := Lib.hid (bad3 fun q => by rcases q with q | q <;> (dsimp only at q; omega))
        clear bad3 good3 hA2 ok1 ok2
        rcases LW with ⟨rfl, rfl, rfl⟩ | ⟨l0, l1, l2, l3, l4, l5, l6, l7, -⟩ <;>
        · go_enter Try.func15, Try.ntmps15
          go_wp2
          go_ret
          exact ⟨by rw [← BD.out]; rfl, H⟩
      have f2 : decide (so < 0) = false := decide_eq_false g2
      by_cases g3 : 2048 < so
      · have f3 : decide (2048 < so) = true := decide_eq_true g3
        have BD : Hid (false = r) := Lib.hid (bad3 fun q => by rcases q with q | q <;> (dsimp only at q; omega))
        clear bad3 good3 hA2 ok1 ok2
        rcases LW with ⟨rfl, rfl, rfl⟩ | ⟨l0, l1, l2, l3, l4, l5, l6, l7, -⟩ <;>
        · go_enter Try.func15, Try.ntmps15
          go_wp2
          go_ret
          exact ⟨by rw [← BD.out]; rfl, H⟩
      have f3 : decide (2048 < so) = false := decide_eq_false g3
      by_cases g4 : (32 : Int) < (n : Int)
      · have f4 : decide ((32 : Int) < (n : Int)) = true := decide_eq_true g4
        have BD : Hid (false = r) := Lib.hid (bad3 fun q => by rcases q with q | q <;> (dsimp only at q; omega))
        clear bad3 good3 hA2 ok1 ok2
        rcases LW with ⟨rfl, rfl, rfl⟩ | ⟨l0, l1, l2, l3, l4, l5, l6, l7, -⟩ <;>
        · go_enter Try.func15, Try.ntmps15
          go_wp2
          go_ret
          exact ⟨by rw [← BD.out]; rfl, H⟩
      have f4 : decide ((32 : Int) < (n : Int)) = false := decide_eq_false g4
      exact absurd ⟨by omega, by omega, by omega, by omega, by omega⟩ b
  exact absurd ⟨HH.out, lenQ_nb HLB.out, selQ_nb (by show ¬ SelBad so sw arms.length; rw [hn]; exact SB)⟩ HQ.out

end Go.Proofs.Ytilebacnjagneaa
