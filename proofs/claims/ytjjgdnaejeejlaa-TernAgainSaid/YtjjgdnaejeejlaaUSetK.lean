/- Package tern: items sorted by their places (slices.SortFunc). -/
import Derived.Test.YtjjgdnaejeejlaaUSetJ
import Derived.Shelf.SlSortCmp.NoneTotal
namespace Go.Proofs.Ytjjgdnaejeejlaa
set_option linter.unusedVariables false
open Go.ChangeShapes Go.WideShapes Go.ChangeAt Go.RowKit Go.Joins Go.Sort

instance : Inhabited PlN := ⟨zeroP⟩
theorem cellsU_length (p : PlN) : (cellsU p).length = 5 := rfl
theorem cellsU_one (p : PlN) : ∀ u ∈ cellsU p, u.oneCell' = true := by
  intro u hu
  simp only [cellsU, List.mem_cons, List.not_mem_nil, or_false] at hu
  rcases hu with rfl | rfl | rfl | rfl | rfl <;> rfl
theorem flatU (ps : List PlN) : flatK cellsU 5 ps.toArray = (cellsP ps).toArray := by
  apply Array.ext_getElem?
  intro i
  have l := cellsP_length ps
  by_cases c : i < ps.length * 5
  · obtain ⟨j, r, rfl, hr⟩ : ∃ j r, i = j * 5 + r ∧ r < 5 := ⟨i / 5, i % 5, by omega, by omega⟩
    have hj : j < ps.length := by omega
    obtain ⟨a0, a1, a2, a3, a4⟩ := cellsP_at ps j ps[j] (List.getElem?_eq_getElem hj)
    have s : j * 5 + r < (flatK cellsU 5 ps.toArray).size := by simpa using c
    have e := get_flatK cellsU 5 ps.toArray (j * 5 + r) (by simpa using c)
    rw [getElem!_pos (flatK cellsU 5 ps.toArray) (j * 5 + r) s] at e
    rw [Array.getElem?_eq_getElem s, e, show (j * 5 + r) / 5 = j by omega, show (j * 5 + r) % 5 = r by omega, List.getElem?_toArray]
    have ej : ps.toArray[j]! = ps[j] := by rw [getElem!_pos _ j (by simpa using hj)]; simp
    rw [ej]
    match r, hr with
    | 0, _ => rw [Nat.add_zero, a0]; rfl
    | 1, _ => rw [a1]; rfl
    | 2, _ => rw [a2]; rfl
    | 3, _ => rw [a3]; rfl
    | 4, _ => rw [a4]; rfl
  · rw [Array.getElem?_eq_none (by simpa using c), List.getElem?_toArray, List.getElem?_eq_none (by omega)]
theorem sorted_rowP {V w : World} {R : List Thing} {g n c : Nat} {ps qs : List PlN} (H : Own V w (rowP (.slice (some ⟨g, 0, none⟩) n c) n ps :: R)) (hn : qs.length = n) (m : Nat) (os : Array Obj) :
    Own V (Go.Proofs.sortWorldK cellsU 5 w g 0 m qs.toArray os) (rowP (.slice (some ⟨g, 0, none⟩) n c) n qs :: R) := by
  obtain ⟨cur, hg, h1, h2, h3⟩ : ∃ cur : Array Value, w.heap[g]? = some (.cells cur 63 (0, 0)) ∧ n ≤ c ∧ c ≤ maxLen ∧ cur.size = c * 5 := by
    rcases H.head.2 with ⟨q, _⟩ | ⟨g2, cap, cur, q, hb, hg, h1, h2, h3, h4⟩
    · cases q
    · simp only [Value.slice.injEq, Option.some.injEq, Addr.mk.injEq, and_true, true_and] at q
      obtain ⟨rfl, rfl⟩ := q
      exact ⟨cur, hg, h1, h2, h3⟩
  unfold Go.Proofs.sortWorldK Go.Sort.putRowK
  rw [flatU]
  obtain ⟨ys, hys⟩ : ∃ ys, cellsP qs = ys := ⟨_, rfl⟩
  have yl : ys.length = n * 5 := by rw [← hys, cellsP_length, hn]
  have hlt : g < w.heap.size := (Array.getElem?_eq_some_iff.1 hg).1
  rw [hys]
  have heq : ∀ i, i < w.heap.size → (Go.Sort.grow (putRow id (Go.Sort.ahead w m) g 0 ys.toArray) os).heap[i]? = if g = i then some (.cells (putCells id 0 ys.toArray cur) 63 (0, 0)) else w.heap[i]? := fun i hi => by
    show ((w.heap.modify g (onCells (putCells id 0 ys.toArray))) ++ os)[i]? = _
    rw [Array.getElem?_append_left (by simpa using hi), Array.getElem?_modify]
    by_cases q : g = i
    · subst q; rw [if_pos rfl, if_pos rfl, hg]; rfl
    · rw [if_neg q, if_neg q]
  have hz : w.heap.size ≤ (Go.Sort.grow (putRow id (Go.Sort.ahead w m) g 0 ys.toArray) os).heap.size := by
    show _ ≤ ((w.heap.modify g _) ++ os).size
    simp
  have sz : (putCells id 0 ys.toArray cur).size = c * 5 := by unfold putCells; rw [Array.size_mapIdx, h3]
  have nc : n * 5 ≤ c * 5 := Nat.mul_le_mul_right _ h1
  refine H.turn (s := rowP (.slice (some ⟨g, 0, none⟩) n c) n qs) ⟨rfl, rfl, hz, fun i hi hF => ?_⟩ ?_ (rowT_stable _ _ _ _ _) fun i hi => ?_
  · rw [heq i hi, if_neg (fun e => hF (by simp [Value.ownBlock, e]))]
  · refine ⟨by rw [hys]; exact yl, .inr ⟨g, c, putCells id 0 ys.toArray cur, rfl, Nat.zero_le _, by rw [heq g hlt, if_pos rfl], h1, h2, sz, ?_⟩⟩
    rw [hys]
    apply List.ext_getElem?
    intro i
    rw [List.getElem?_take]
    by_cases q : i < n * 5
    · rw [if_pos q, Array.getElem?_toList, Array.getElem?_eq_getElem (by omega)]
      unfold putCells
      rw [Array.getElem_mapIdx, List.getElem?_eq_getElem (by omega), if_pos ⟨Nat.zero_le _, by simpa using (by omega : i < 0 + ys.length)⟩]
      have e : (ys.toArray)[i - 0]! = ys[i]'(by omega) := by
        rw [Nat.sub_zero, getElem!_pos _ i (by simpa using (by omega : i < ys.length))]
        simp
      rw [e]
      rfl
    · rw [if_neg q, List.getElem?_eq_none (by omega)]
  · obtain rfl : i = g := by simpa [Value.ownBlock] using hi
    exact ⟨.inl hi, Nat.lt_of_lt_of_le hlt hz⟩
def byPl (x y : PlN) : Int := Lib.compareInt (x.pl : Int) (y.pl : Int)
theorem ltPl (x y : PlN) : Go.Proofs.ltOf byPl x y = decide (x.pl < y.pl) := by
  unfold Go.Proofs.ltOf byPl Lib.compareInt
  by_cases h1 : (x.pl : Int) < (y.pl : Int)
  · have : x.pl < y.pl := by omega
    simp [h1, this]
  · have h3 : ¬ x.pl < y.pl := by omega
    by_cases h2 : (x.pl : Int) > (y.pl : Int)
    · simp [h1, h2, h3]
    · simp [h1, h2, h3]
theorem swoPl : SWO (Go.Proofs.ltOf byPl) where
  irrefl x := by rw [ltPl]; simp
  trans x y z h1 h2 := by rw [ltPl] at *; simp at *; omega
  ntrans x y z h1 h2 := by rw [ltPl] at *; simp at *; omega
set_option maxHeartbeats 1000000 in
theorem uall1_c (x y : PlN) (W : World) : Calls Try.prog 36 #[.agg (cellsU x).toArray, .agg (cellsU y).toArray] W fun e w' => e = .returned (.int .i64 (byPl x y)) ∧ ∃ q os', w' = Go.Sort.grow (W.drewN q) os' := by
  obtain ⟨⟨k1, m1, p1, v1⟩, n1⟩ := x
  obtain ⟨⟨k2, m2, p2, v2⟩, n2⟩ := y
  have hcon := fun W' => Try.cmp_Compare_int (n1 : Int) (n2 : Int) W'
  show Calls Try.prog 36 #[.agg #[.string k1, .string m1, .int .i64 p1, .int .i64 v1, .int .i64 (n1 : Int)], .agg #[.string k2, .string m2, .int .i64 p2, .int .i64 v2, .int .i64 (n2 : Int)]] W fun e w' => e = .returned (.int .i64 (Lib.compareInt (n1 : Int) (n2 : Int))) ∧ ∃ q os', w' = Go.Sort.grow (W.drewN q) os'
  generalize Lib.compareInt (n1 : Int) (n2 : Int) = r at hcon ⊢
  go_enter Try.func36, Try.ntmps36
  go_wp2_with (go_at_call 37; refine (hcon _).mono ?_; rintro e w' ⟨rfl, rfl⟩)
  go_ret
  exact ⟨rfl, 0, _, by rw [alloc_eq_grow, alloc_eq_grow, grow_grow]; rfl⟩
theorem usort_1 {V w : World} {R : List Thing} {v : Value} {n : Nat} {ps : List PlN} (H : Own V w (rowP v n ps :: R)) (hn : ps.length = n) (hl : n < 1000000) :
    Calls Try.prog 35 #[v, .func (.func 36) #[] #[]] w fun e w' => ∃ qs : List PlN, e = .returned (.tuple #[]) ∧ qs.Perm ps ∧ (qs.Pairwise fun p q => p.pl ≤ q.pl) ∧ Own V w' (rowP v n qs :: R) := by
  obtain ⟨B, c, rfl⟩ := ownsRow_shape H.head
  by_cases z : n = 0
  · subst z
    obtain rfl : ps = [] := List.eq_nil_of_length_eq_zero hn
    have h := Go.Proofs.AnyF.slices_SortFunc_none Try.sortP B c (.func (.func 36) #[] #[]) w
    change Calls Try.prog 35 _ _ _ at h
    refine h.mono ?_
    rintro e w' ⟨h1, h2⟩
    exact ⟨[], h1, List.Perm.nil, .nil, by rw [h2]; exact H⟩
  · obtain ⟨g, c2, e, hc⟩ := row_slice H.head (by omega)
    injection e with e1 e2 e3
    subst e1 e3
    have eg : ∀ args w, (callFunc 36 args).run Try.prog w = .ok (.enter 36 args) w := Go.Proofs.enters_of Try.func36 (by kernel_rfl) rfl
    have hg : g < w.heap.size := (H.head.lt g (by simp [Value.ownBlock])).2
    have h := Go.Proofs.AnyQ.slices_SortFunc Try.sortP 5 Try.isAgg63 Try.sizeOf63 cellsU cellsU_length cellsU_one byPl swoPl 36 #[] g 0 c ps.toArray w eg
      (fun _ _ _ _ x y => uall1_c x y _) (by
        show Go.Sort.Holds id w g 0 (flatK cellsU 5 ps.toArray)
        rw [flatU]
        intro j hj
        have hj2 : j < (cellsP ps).length := by simpa using hj
        rw [Nat.zero_add]
        refine ⟨?_, row_free H.head j⟩
        rw [hc j _ (List.getElem?_eq_getElem hj2), getElem!_pos _ j hj]
        simp) hg (by rw [List.size_toArray]; omega)
    change Calls Try.prog 35 _ _ _ at h
    rw [List.size_toArray, hn] at h
    refine h.mono ?_
    rintro e w' ⟨h1, d, m, os, hp, hs, hw⟩
    obtain ⟨qs⟩ := d
    obtain ⟨s1, s2, s3⟩ := hp
    have ql : qs.length = n := by simpa [hn] using s1
    have perm : qs.Perm ps := by
      have a : ((⟨qs⟩ : Array PlN).extract 0 n).toList = qs := by
        rw [Array.toList_extract]
        simp only [List.extract, Nat.sub_zero, List.drop_zero]
        exact List.take_of_length_le (by omega)
      have b : ((ps.toArray).extract 0 n).toList = ps := by
        rw [Array.toList_extract]
        simp only [List.extract, Nat.sub_zero, List.drop_zero]
        exact List.take_of_length_le (by omega)
      rw [a, b] at s3
      exact s3
    refine ⟨qs, h1, perm, ?_, by rw [hw]; exact sorted_rowP H ql m os⟩
    rw [List.pairwise_iff_getElem]
    intro i j hi hj hij
    have k := hs i j (Nat.zero_le _) hij (by omega)
    rw [ltPl] at k
    have e1 : (qs.toArray)[i]! = qs[i] := by rw [getElem!_pos _ i (by simpa using hi)]; simp
    have e2 : (qs.toArray)[j]! = qs[j] := by rw [getElem!_pos _ j (by simpa using hj)]; simp
    rw [e1, e2] at k
    have := of_decide_eq_false k
    omega

end Go.Proofs.Ytjjgdnaejeejlaa
