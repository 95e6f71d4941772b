/- What the code of package tlv does: Decode and ReadList: by walks. -/
import Derived.Test.YtemfionibnlniaaTCodeD
import Derived.Defers
import Derived.Recover
namespace Go.Proofs.Ytemfionibnlniaa
set_option linter.unusedVariables false
open Go.ChangeShapes Go.WideShapes Go.ChangeAt Go.RowKit Go.Joins
open Go.ChangeMaps (open_string shut_string)

theorem assert_errno (v : Value) (W : World) : (Instr.typeAssert (.iface 27 v) 20 27 false).run Try.prog W = .ok v W := by
  first | rfl | kernel_rfl | simp [Instr.typeAssert, go_sem]
/-- The deferred closure, behind a panic: it lays what was thrown. -/
theorem dcatch_p {V w : World} {L : List Thing} {Bl Be : Nat} {v x : Value} {t t' : TypeId} (H : Own V w (blkT Be #[x] t' :: blkT Bl #[v] t :: L)) (c : Nat) (older : List PanicEntry) :
    CallsD Try.prog 34 #[.pointer (some ⟨Bl, 0, none⟩), .pointer (some ⟨Be, 0, none⟩)] (.panicking ({ v := .iface 27 (.int .i64 (c : Int)), recovered := false } :: older)) w fun e u' w' =>
      e = .returned (.tuple #[]) ∧ u' = .panicking ({ v := .iface 27 (.int .i64 (c : Int)), recovered := true } :: older) ∧ Own V w' (blkT Be #[.int .i64 (c : Int)] t' :: blkT Bl #[.slice none 0 0] t :: L) := by
  have c0 := blk_cell H.second 0 (v := v) rfl
  have f0 := blk_free H.second 0
  have c1 := blk_cell H.head 0 (v := x) rfl
  have f1 := blk_free H.head 0
  have ne : Bl ≠ Be := by
    have := (List.pairwise_cons.1 H.apart).1 _ (.head _) Be (by simp)
    simpa using fun e : Bl = Be => this (by simp [e])
  have E : Own V ((w.setCell ⟨Bl, 0, none⟩ (.slice none 0 0)).setCell ⟨Be, 0, none⟩ (.int .i64 (c : Int))).drew (blkT Be #[.int .i64 (c : Int)] t' :: blkT Bl #[.slice none 0 0] t :: L) := ((H.swap.store 0 (.slice none 0 0)).swap.store 0 (.int .i64 (c : Int))).quiet (Wider.refl _).drew
  have hta := assert_errno (.int .i64 (c : Int))
  refine callsD_of_wpS Try.func34 rfl fun c₀ cs hu => ?_
  apply wpS_seq
  apply wpS_region
  simp [wpOpsS, go_sem, recoverD, hu, Try.ntmps34, Exit.thenS]
  refine wpS_of_wp ?_
  change Code.wp Try.prog _ _ { tmps := #[.pointer (some ⟨Bl, 0, none⟩), .pointer (some ⟨Be, 0, none⟩), .iface 27 (.int .i64 (c : Int)), .iface 27 (.int .i64 (c : Int)), undef, undef, undef, undef], defers := [] } w
  go_wp2
  go_region
  simp +zetaDelta [bodyPostS, results, Try.results34]
  exact E
/-- Behind a return: it finds nothing. -/
theorem dcatch_i {Bl Be : Nat} (w : World) :
    CallsD Try.prog 34 #[.pointer (some ⟨Bl, 0, none⟩), .pointer (some ⟨Be, 0, none⟩)] .returning w fun e u' w' => e = .returned (.tuple #[]) ∧ u' = .returning ∧ w' = w := by
  refine callsD_of_wpS Try.func34 rfl fun c₀ cs hu => ?_
  apply wpS_seq
  apply wpS_region
  simp [wpOpsS, go_sem, recoverD, hu, Try.ntmps34, Exit.thenS]
  refine wpS_of_wp ?_
  change Code.wp Try.prog _ _ { tmps := #[.pointer (some ⟨Bl, 0, none⟩), .pointer (some ⟨Be, 0, none⟩), .nilIface, .nilIface, undef, undef, undef, undef], defers := [] } w
  go_wp2
  cases c₀
  simp_all [bodyPostS, results, Try.results34]
/-- The like of ReadList. -/
theorem lcatch_p {V w : World} {L : List Thing} {Bl Be : Nat} {v x : Value} {t t' : TypeId} (H : Own V w (blkT Be #[x] t' :: blkT Bl #[v] t :: L)) (c : Nat) (older : List PanicEntry) :
    CallsD Try.prog 41 #[.pointer (some ⟨Bl, 0, none⟩), .pointer (some ⟨Be, 0, none⟩)] (.panicking ({ v := .iface 27 (.int .i64 (c : Int)), recovered := false } :: older)) w fun e u' w' =>
      e = .returned (.tuple #[]) ∧ u' = .panicking ({ v := .iface 27 (.int .i64 (c : Int)), recovered := true } :: older) ∧ Own V w' (blkT Be #[.int .i64 (c : Int)] t' :: blkT Bl #[.slice none 0 0] t :: L) := by
  have c0 := blk_cell H.second 0 (v := v) rfl
  have f0 := blk_free H.second 0
  have c1 := blk_cell H.head 0 (v := x) rfl
  have f1 := blk_free H.head 0
  have ne : Bl ≠ Be := by
    have := (List.pairwise_cons.1 H.apart).1 _ (.head _) Be (by simp)
    simpa using fun e : Bl = Be => this (by simp [e])
  have E : Own V ((w.setCell ⟨Bl, 0, none⟩ (.slice none 0 0)).setCell ⟨Be, 0, none⟩ (.int .i64 (c : Int))).drew (blkT Be #[.int .i64 (c : Int)] t' :: blkT Bl #[.slice none 0 0] t :: L) := ((H.swap.store 0 (.slice none 0 0)).swap.store 0 (.int .i64 (c : Int))).quiet (Wider.refl _).drew
  have hta := assert_errno (.int .i64 (c : Int))
  refine callsD_of_wpS Try.func41 rfl fun c₀ cs hu => ?_
  apply wpS_seq
  apply wpS_region
  simp [wpOpsS, go_sem, recoverD, hu, Try.ntmps41, Exit.thenS]
  refine wpS_of_wp ?_
  change Code.wp Try.prog _ _ { tmps := #[.pointer (some ⟨Bl, 0, none⟩), .pointer (some ⟨Be, 0, none⟩), .iface 27 (.int .i64 (c : Int)), .iface 27 (.int .i64 (c : Int)), undef, undef, undef, undef], defers := [] } w
  go_wp2
  go_region
  simp +zetaDelta [bodyPostS, results, Try.results41]
  exact E
/-- Behind a return: it finds nothing. -/
theorem lcatch_i {Bl Be : Nat} (w : World) :
    CallsD Try.prog 41 #[.pointer (some ⟨Bl, 0, none⟩), .pointer (some ⟨Be, 0, none⟩)] .returning w fun e u' w' => e = .returned (.tuple #[]) ∧ u' = .returning ∧ w' = w := by
  refine callsD_of_wpS Try.func41 rfl fun c₀ cs hu => ?_
  apply wpS_seq
  apply wpS_region
  simp [wpOpsS, go_sem, recoverD, hu, Try.ntmps41, Exit.thenS]
  refine wpS_of_wp ?_
  change Code.wp Try.prog _ _ { tmps := #[.pointer (some ⟨Bl, 0, none⟩), .pointer (some ⟨Be, 0, none⟩), .nilIface, .nilIface, undef, undef, undef, undef], defers := [] } w
  go_wp2
  cases c₀
  simp_all [bodyPostS, results, Try.results41]
end Go.Proofs.Ytemfionibnlniaa
