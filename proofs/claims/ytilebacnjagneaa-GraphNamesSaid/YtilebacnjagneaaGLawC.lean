/- Package graph: what its statements call: without: by a walk of its code. -/
import Derived.Test.YtilebacnjagneaaGLawB
namespace Go.Proofs.Ytilebacnjagneaa
set_option linter.unusedVariables false
open Go.ChangeShapes Go.WideShapes Go.ChangeAt Go.RowKit Go.Joins

theorem lay_take {w : World} {A : Option Addr} {l : List NodM} (h : ∀ a, A = some a → ∀ (i : Nat) u, (cellsNd l)[i]? = some u → w.cell? (a.add i) = some u) (k : Nat) (hk : k ≤ l.length) : ∀ a, A = some a → ∀ (i : Nat) u, (cellsNd (l.take k))[i]? = some u → w.cell? (a.add i) = some u := fun a e i u hu => by
  refine h a e i u ?_
  rw [← List.take_append_drop k l, cellsNd_append, List.getElem?_append_left (List.getElem?_eq_some_iff.1 hu).1]
  exact hu
theorem lay_drop {w : World} {A : Option Addr} {l : List NodM} (h : ∀ a, A = some a → ∀ (i : Nat) u, (cellsNd l)[i]? = some u → w.cell? (a.add i) = some u) (k : Nat) (hk : k ≤ l.length) (hp : 0 < k) : ∀ a, A = some a → ∀ (i : Nat) u, (cellsNd (l.drop k))[i]? = some u → w.cell? ((a.add (k * 9)).add i) = some u := fun a e i u hu => by
  have q : (a.add (k * 9)).add i = a.add (k * 9 + i) := by
    unfold Addr.add
    rw [if_neg (show ¬ k * 9 = 0 by omega), if_neg (show ¬ k * 9 + i = 0 by omega)]
    split
    · rename_i c; subst c; simp
    · simp [Nat.add_assoc]
  rw [q]
  refine h a e (k * 9 + i) u ?_
  have e2 := cellsNd_append (l.take k) (l.drop k)
  rw [List.take_append_drop] at e2
  have l2 : (cellsNd (l.take k)).length = k * 9 := by rw [cellsNd_length, List.length_take, Nat.min_eq_left hk]
  rw [e2, List.getElem?_append_right (by omega), l2, Nat.add_sub_cancel_left]
  exact hu
theorem row_le {w : World} {b : Nat} {E : TypeId} {k n c : Nat} {A : Option Addr} {xs : List Value} (h : w.ownsRow b E k (.slice A n c) n xs) : n ≤ c := by
  rcases h.2 with ⟨q, q2⟩ | ⟨g, c, cur, q, r⟩
  · cases q; exact Nat.le_refl _
  · cases q
    exact r.2.2.1
theorem held_sub {w : World} {l m : List NodM} (h : HeldM w l) (k : ∀ e ∈ m, e ∈ l) : HeldM w m := fun e he => h e (k e he)
abbrev zeroNV : Value := .agg #[.int .i64 0, .int .i64 0, .int .i64 0, .int .i64 0, .int .i64 0, .int .i64 0, .int .i64 0, .slice none 0 0, .int .i64 0]
set_option maxRecDepth 20000 in
set_option maxHeartbeats 8000000 in
theorem gwithout_c {w : World} {A : Option Addr} {n c k : Nat} {L : List NodV} (hL : NodesAt w A L) (hn : L.length = n) (hl : n < 100000) (hc : n ≤ c) (hk : k < n) :
    Calls Try.prog 20 #[.slice A n c, .int .i64 (k : Int)] w fun e w' => ∃ B m, e = .returned (.slice B (n - 1) m) ∧ Wider w w' ∧ NodesAt w' B (L.take k ++ L.drop (k + 1)) ∧ n - 1 ≤ m := by
  obtain ⟨l, rfl, hm, lay⟩ := hL.lay
  rw [List.length_map] at hn
  obtain ⟨a, rfl⟩ : ∃ a, A = some a := by
    cases A with
    | none => have := hL.none_ rfl; have := congrArg List.length this; rw [List.length_map, hn] at this; simp at this; omega
    | some a => exact ⟨a, rfl⟩
  obtain ⟨i0, hi, hz0, hz1, hz2⟩ := info_parts ginfoN
  have G := (Wider.refl w).alloc (.cells #[] 28)
  have H1 : Own w (w.alloc (.cells #[] 28)) [rowT 28 9 (.slice (some ⟨w.heap.size, 0, none⟩) 0 0) 0 []] := (Own.nil (Wider.refl w)).row G (World.ownsRow_made w #[] 0 (Nat.le_refl _) (Nat.zero_le _) rfl)
  have H2 : Own w (w.alloc (.cells #[] 28)).drew [rowT 28 9 (.slice (some ⟨w.heap.size, 0, none⟩) 0 0) 0 []] := H1.quiet (Wider.refl _).drew
  have X1 : Hid (∀ b, some a = some b → ∀ (j : Nat) u, (cellsNd (l.take k))[j]? = some u → (w.alloc (.cells #[] 28)).drew.cell? (b.add j) = some u) := Lib.hid fun b e j u hu => wkeep G.drew (lay_take lay k (by omega) b e j u hu)
  have L1 : Hid ((cellsNd (l.take k)).length = k * 9) := Lib.hid (by rw [cellsNd_length, List.length_take, Nat.min_eq_left (by omega)])
  have L2 : Hid ((cellsNd (l.drop (k + 1))).length = (n - (k + 1)) * 9) := Lib.hid (by rw [cellsNd_length, List.length_drop, hn])
  have S1 : Hid (0 + k ≤ maxLen) := by show _ ≤ maxLen; unfold maxLen; omega
  have S2 : Hid ((0 + k) * 88 ≤ 140737488355328) := by show _ ≤ _; omega
  have S3 : Hid (k + (n - (k + 1)) ≤ maxLen) := by show _ ≤ maxLen; unfold maxLen; omega
  have S4 : Hid ((k + (n - (k + 1))) * 88 ≤ 140737488355328) := by show _ ≤ _; omega
  have w1 : IntKind.i64.wrap ((k : Int) + 1) = (k : Int) + 1 := by simp [IntKind.wrap, IntKind.bits, IntKind.signed]; omega
  have q0 : (0 : Int) ≤ (k : Int) := by omega
  have q1 : (k : Int) ≤ (c : Int) := by omega
  have q2 : (0 : Int) ≤ (k : Int) + 1 := by omega
  have q3 : (k : Int) + 1 ≤ (n : Int) := by omega
  have q4 : k ≤ c := by omega
  have q5 : k + 1 ≤ n := by omega
  have q6 : n ≤ c := hc
  obtain ⟨A2, hA2⟩ : ∃ A2, (if c = k + 1 then some a else some (a.add ((k + 1) * 9))) = A2 := ⟨_, rfl⟩
  have X2 : Hid (∀ (W : World), Wider w W → ∀ b, A2 = some b → ∀ (j : Nat) u, (cellsNd (l.drop (k + 1)))[j]? = some u → W.cell? (b.add j) = some u) := Lib.hid fun W g b e j u hu => by
    by_cases q : c = k + 1
    · have := (List.getElem?_eq_some_iff.1 hu).1
      rw [L2.out] at this
      omega
    · rw [if_neg q] at hA2
      subst hA2
      cases e
      exact wkeep g (lay_drop lay (k + 1) (by omega) (by omega) a rfl j u hu)
  have N2 : Hid (A2 = none → n - (k + 1) = 0) := Lib.hid fun e => by
    rw [← hA2] at e
    split at e <;> cases e
  have HM := Lib.hid hm
  have SN : Hid (k + (n - (k + 1)) = n - 1) := Lib.hid (by omega)
  have HLN := Lib.hid hn
  clear hL lay hm hn
  go_enter Try.func20, Try.ntmps20
  go_upto_region 1 with (fail)
  go_region_law (first
    | (refine step_append_thing rfl (.tmp 5) (.tmp 8) 29 rfl 28 i0 zeroNV 9 88 Try.underlying29 hi hz0 hz1 hz2 rfl (by decide) (.slice (some ⟨w.heap.size, 0, none⟩) 0 0) 0 [] (by simp [Act.eval]) H2 (some a) k c (cellsNd (l.take k)) (by simp [Act.eval]) L1.out (fun e => by cases e) X1.out (cellsNd_one _) S1.out S2.out (Nat.zero_add k) rfl ?_; intro B3 c3 w5 H5; have X3 := X2.out _ H5.wider)
    | (go_loud (refine step_append_thing rfl (.tmp 9) (.tmp 13) 29 rfl 28 i0 zeroNV 9 88 Try.underlying29 hi hz0 hz1 hz2 rfl (by decide) (.slice B3 k c3) k ([] ++ cellsNd (l.take k)) (by simp [Act.eval]) H5 A2 (n - (k + 1)) (c - (k + 1)) (cellsNd (l.drop (k + 1))) (by simp [Act.eval]) L2.out N2.out X3 (cellsNd_one _) S3.out S4.out SN.out rfl ?_; intro B4 c4 w6 H6)))
  all_goals
    go_wp2
    go_ret
    have hd := H6.head
    rw [List.nil_append, ← cellsNd_append] at hd
    have kk := NodesAt.row hd (by rw [List.length_append, List.length_take, List.length_drop, HLN.out]; omega) (held_sub (HM.out.on H6.wider) fun e he => by
      rcases List.mem_append.1 he with he | he
      · exact List.mem_of_mem_take he
      · exact List.mem_of_mem_drop he)
    rw [List.map_append, List.map_take, List.map_drop] at kk
    exact ⟨B4, c4, rfl, H6.wider, kk, row_le hd⟩

end Go.Proofs.Ytilebacnjagneaa
