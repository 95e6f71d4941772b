/- Package graph: what each of its statements asks first: the examples are as they are told. -/
import Derived.Test.YtilebacnjagneaaGRow
import Derived.Test.YtilebacnjagneaaGEx
namespace Go.Proofs.Ytilebacnjagneaa
set_option linter.unusedVariables false
open Go.ChangeShapes Go.WideShapes Go.ChangeAt Go.RowKit Go.Joins

theorem okN {x : NodV} (h : x.arms.all (fun p => decide (0 ≤ p.1) && decide (p.1 < 4294967296)) = true) (k : x.arms.length < 100000) : x.Ok :=
  ⟨fun p hp => by have := List.all_eq_true.1 h p hp; simpa using this, k⟩
theorem exG_few (last : Int) : FewG (exG last) := by
  refine ⟨by show 4 < 100000; decide, fun x hx => ?_⟩
  simp only [exG, List.mem_cons, List.not_mem_nil, or_false] at hx
  rcases hx with rfl | rfl | rfl | rfl
  · exact okN (by decide) (by decide)
  · exact okN (by decide) (by decide)
  · exact okN rfl (by show 0 < 100000; decide)
  · exact okN rfl (by show 0 < 100000; decide)
theorem nil_few : FewG [] := ⟨by decide, fun x hx => by cases hx⟩
set_option maxRecDepth 20000 in
set_option maxHeartbeats 4000000 in
theorem gsome_c (last : Int) (w : World) : Calls Try.prog 22 #[.int .i64 last] w fun e w' => ∃ A c, e = .returned (.slice A 4 c) ∧ Wider w w' ∧ NodesAt w' A (exG last) := by
  go_enter Try.func22, Try.ntmps22
  go_wp2
  go_ret
  have H1 := (Own.nil (Wider.refl w)).blk #[.int .u32 2048, .int .i64 2, .int .u32 34525, .int .i64 3] 26
  have H2 := H1.blk #[.int .u32 6, .int .i64 4] 26
  have z1 : (w.alloc (.cells #[.int .u32 2048, .int .i64 2, .int .u32 34525, .int .i64 3] 26)).heap.size = w.heap.size + 1 := by simp
  rw [z1] at H2
  have H3 := H2.blk (cellsNd [⟨⟨1, 14, 0, 0, 0, 96, 16, [(2048, 2), (34525, 3)], 0⟩, some ⟨w.heap.size, 0, none⟩, 2, 2⟩, ⟨⟨2, 0, 4, 4, 4, 72, 8, [(6, 4)], 0⟩, some ⟨w.heap.size + 1, 0, none⟩, 1, 1⟩, ⟨⟨3, 40, 0, 0, 0, 0, 0, [], 4⟩, none, 0, 0⟩, ⟨⟨4, 20, 0, 0, 0, 0, 0, [], last⟩, none, 0, 0⟩]).toArray 28
  have z2 : ((w.alloc (.cells #[.int .u32 2048, .int .i64 2, .int .u32 34525, .int .i64 3] 26)).alloc (.cells #[.int .u32 6, .int .i64 4] 26)).heap.size = w.heap.size + 1 + 1 := by simp
  rw [z2] at H3
  have k := NodesAt.blk H3.head rfl (fun e he => by
    simp only [List.mem_cons, List.not_mem_nil, or_false] at he
    rcases he with rfl | rfl | rfl | rfl
    · exact ⟨ArmsAt.blk H3.drop.drop.head rfl, rfl⟩
    · exact ⟨ArmsAt.blk H3.drop.head rfl, rfl⟩
    · exact ⟨ArmsAt.nil _, rfl⟩
    · exact ⟨ArmsAt.nil _, rfl⟩)
  exact ⟨some ⟨w.heap.size + 1 + 1, 0, none⟩, 4, rfl, H3.wider, k⟩
set_option maxRecDepth 20000 in
set_option maxHeartbeats 4000000 in
theorem gawake_c (w : World) : Calls Try.prog 9 #[] w fun e w' => e = .returned (.bool true) ∧ Wider w w' := by
  have m0 := fun {W : World} {A : Option Addr} {c : Nat} (h : NodesAt W A (exG 0)) => gmay_c (n := 4) (c := c) h rfl (exG_few 0) ex_0_may
  have l0 := fun {W : World} {A : Option Addr} {c : Nat} (h : NodesAt W A (exG 0)) => glongest_c (n := 4) (c := c) h rfl (exG_few 0) ex_0_long
  have t1 := fun {W : World} {A : Option Addr} {c : Nat} (h : NodesAt W A (exG 0)) => gnextOf_c (n := 4) (c := c) h rfl (exG_few 0) 1 2048 ex_next1
  have t2 := fun {W : World} {A : Option Addr} {c : Nat} (h : NodesAt W A (exG 0)) => gnextOf_c (n := 4) (c := c) h rfl (exG_few 0) 1 5 ex_next2
  have t3 := fun {W : World} {A : Option Addr} {c : Nat} (h : NodesAt W A (exG 0)) => gnextOf_c (n := 4) (c := c) h rfl (exG_few 0) 3 7 ex_next3
  have m1 := fun {W : World} {A : Option Addr} {c : Nat} (h : NodesAt W A (exG 1)) => gmay_c (n := 4) (c := c) h rfl (exG_few 1) ex_1_may
  have m9 := fun {W : World} {A : Option Addr} {c : Nat} (h : NodesAt W A (exG 9)) => gmay_c (n := 4) (c := c) h rfl (exG_few 9) ex_9_may
  have mr := fun {W : World} {A : Option Addr} {c : Nat} (h : NodesAt W A (exG 65535)) => gmay_c (n := 4) (c := c) h rfl (exG_few 65535) ex_refuse_may
  have mn := fun (W : World) => gmay_c (n := 0) (c := 0) (NodesAt.nil W) rfl nil_few nil_may
  have ln := fun (W : World) => glongest_c (n := 0) (c := 0) (NodesAt.nil W) rfl nil_few nil_long
  go_enter Try.func9, Try.ntmps9
  go_wp2_with (first
    | (go_at_call 22; ((with_reducible refine (gsome_c 0 _).mono ?_); rintro e w1 ⟨A0, d0, rfl, G, N0⟩))
    | (go_at_call 11; ((with_reducible refine (m0 N0).mono ?_); rintro e w1 ⟨rfl, g⟩; replace G := G.trans g; replace N0 := N0.on g; clear g m0))
    | (go_at_call 12; ((with_reducible refine (l0 N0).mono ?_); rintro e w1 ⟨rfl, g⟩; replace G := G.trans g; replace N0 := N0.on g; clear g l0))
    | (go_at_call 13; ((with_reducible refine (t1 N0).mono ?_); rintro e w1 ⟨rfl, g⟩; replace G := G.trans g; replace N0 := N0.on g; clear g t1))
    | (go_at_call 13; ((with_reducible refine (t2 N0).mono ?_); rintro e w1 ⟨rfl, g⟩; replace G := G.trans g; replace N0 := N0.on g; clear g t2))
    | (go_at_call 13; ((with_reducible refine (t3 N0).mono ?_); rintro e w1 ⟨rfl, g⟩; replace G := G.trans g; clear g t3 N0))
    | (go_at_call 22; ((with_reducible refine (gsome_c 1 _).mono ?_); rintro e w1 ⟨A1, d1, rfl, g, N1⟩; replace G := G.trans g; clear g))
    | (go_at_call 11; ((with_reducible refine (m1 N1).mono ?_); rintro e w1 ⟨rfl, g⟩; replace G := G.trans g; clear g m1 N1))
    | (go_at_call 22; ((with_reducible refine (gsome_c 9 _).mono ?_); rintro e w1 ⟨A9, d9, rfl, g, N9⟩; replace G := G.trans g; clear g))
    | (go_at_call 11; ((with_reducible refine (m9 N9).mono ?_); rintro e w1 ⟨rfl, g⟩; replace G := G.trans g; clear g m9 N9))
    | (go_at_call 22; ((with_reducible refine (gsome_c 65535 _).mono ?_); rintro e w1 ⟨A7, d7, rfl, g, N7⟩; replace G := G.trans g; clear g))
    | (go_at_call 11; ((with_reducible refine (mr N7).mono ?_); rintro e w1 ⟨rfl, g⟩; replace G := G.trans g; clear g mr N7))
    | (go_at_call 11; ((with_reducible refine (mn _).mono ?_); rintro e w1 ⟨rfl, g⟩; replace G := G.trans g; clear g mn))
    | (go_at_call 12; ((with_reducible refine (ln _).mono ?_); rintro e w1 ⟨rfl, g⟩; replace G := G.trans g; clear g ln)))
  go_ret
  exact ⟨rfl, G⟩

end Go.Proofs.Ytilebacnjagneaa
