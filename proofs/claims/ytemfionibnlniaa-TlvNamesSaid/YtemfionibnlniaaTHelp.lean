/- The helpers of the statements of layer 6, and the document's Same and Texts: by walks. -/
import Derived.Test.YtemfionibnlniaaOpen
import Derived.Test.YtemfionibnlniaaTMem
import Derived.WalkKit
import Derived.Lib.Hide
import Derived.Deep.DeepCutAuto
import Derived.WalkLawsBesides
import Derived.WalkSpells
import Derived.BigQuiet
import Derived.BigRegion
import Derived.Deep.RegionHeld3
namespace Go.Proofs.Ytemfionibnlniaa
set_option linter.unusedVariables false
open Go.ChangeShapes Go.WideShapes Go.ChangeAt Go.RowKit Go.Joins
open Go.ChangeMaps (open_string shut_string)

theorem infoTlv : (Try.prog.info? 38).map (fun i => (i.zero, i.size, i.bytes)) = some (some (.agg #[.int .u8 0, .string ⟨#[]⟩]), 2, 24) := by kernel_rfl
theorem infoRef : (Try.prog.info? 58).map (fun i => (i.zero, i.size, i.bytes)) = some (some (.agg #[.int .u8 0, .string ⟨#[]⟩]), 2, 24) := by kernel_rfl
/-- What an append of one attribute asks of the block that it lies in. -/
theorem lies2 (w : World) (u v : Value) (t : TypeId) (hu : u.oneCell' = true) (hv : v.oneCell' = true) :
    (∀ (j : Nat) (x : Value), ([u, v] : List Value)[j]? = some x → (w.alloc (.cells #[u, v] t)).cell? ((⟨w.heap.size, 0, none⟩ : Addr).add j) = some x) ∧ (∀ x ∈ ([u, v] : List Value), x.oneCell' = true) := by
  refine ⟨fun j x hj => ?_, fun x hx => ?_⟩
  · match j, hj with
    | 0, hj => simp at hj; subst hj; simp [Addr.add, go_sem]
    | 1, hj => simp at hj; subst hj; simp [Addr.add, go_sem]
    | j + 2, hj => simp at hj
  · simp only [List.mem_cons, List.not_mem_nil, or_false] at hx
    rcases hx with rfl | rfl
    · exact hu
    · exact hv
theorem lies1 (w : World) (u : Value) (t : TypeId) (hu : u.oneCell' = true) :
    (∀ (j : Nat) (x : Value), ([u] : List Value)[j]? = some x → (w.alloc (.cells #[u] t)).cell? ((⟨w.heap.size, 0, none⟩ : Addr).add j) = some x) ∧ (∀ x ∈ ([u] : List Value), x.oneCell' = true) := by
  refine ⟨fun j x hj => ?_, fun x hx => ?_⟩
  · match j, hj with
    | 0, hj => simp at hj; subst hj; simp [Addr.add, go_sem]
    | j + 1, hj => simp at hj
  · simp only [List.mem_cons, List.not_mem_nil, or_false] at hx
    rcases hx with rfl
    exact hu

set_option maxHeartbeats 2000000 in
theorem attrs_c (A : Option Addr) (n cap : Nat) (l : List AtN) (w : World) (h : AtsAt w A l) (hn : l.length = n) (hl : n < 1000000) :
    Calls Try.prog 14 #[.slice A n cap] w fun e w' => ∃ v, e = .returned v ∧ Wider w w' ∧ w'.ownsRow w.heap.size 38 2 v n (cellsA l) := by
  have HN := Lib.hid hn
  clear hn
  obtain ⟨i0, hi, hz0, hz1, hz2⟩ := info_parts infoTlv
  go_enter Try.func14, Try.ntmps14
  go_wp2
  go_loopw [3, 4] (fun v i wr => ∃ k : Nat, k ≤ n ∧ i = .int .i64 (k : Int) ∧ wr.ownsRow w.heap.size 38 2 v k (cellsA (l.take k)) ∧ Wider w wr) (fun _ i _ => n - (intOf i).toNat)
  case atStart => exact ⟨0, by omega, by simp, World.ownsRow_nil _ _ _ _, Wider.refl w⟩
  case round =>
    obtain ⟨k, hk, rfl, hown, hg⟩ := hrel
    by_cases c : k < n
    · have j0 : (0 : Int) ≤ (k : Int) := by omega
      have j1 : (k : Int) < (n : Int) := by omega
      obtain ⟨x, hx⟩ := next_some l k (by have := HN.out; omega)
      cases A with
      | none => exact absurd (h.none_ rfl) (by intro e; rw [e] at hx; simp at hx)
      | some a =>
        have hA := (h.cell a rfl k x hx).on hg
        have TK := Lib.hid (take_next l k x hx)
        obtain ⟨t, s⟩ := x
        obtain ⟨c0, c1⟩ := hA
        have d1 := AtAt.flat ⟨c0, c1⟩
        simp only at c0 c1 d1
        have SIDE := Lib.hid (lies2 wr (.int .u8 (t : Int)) (.string s) 38 rfl rfl)
        have SIDE3 : Hid (k + 1 ≤ maxLen) := by show k + 1 ≤ maxLen; unfold maxLen; omega
        have SIDE4 : Hid ((k + 1) * 24 ≤ 140737488355328) := by show (k + 1) * 24 ≤ 140737488355328; omega
        have SIDE5 : Hid (w.heap.size ≤ (wr.alloc (.cells #[.int .u8 (t : Int), .string s] 38)).heap.size) := by show _ ≤ _; rw [World.size_alloc]; have := hg.2; omega
        have HG := Lib.hid hg
        have HO := Lib.hid hown
        clear hx hg
        go_wp2_with (at_builtin; refine wpList_append_own _ rfl (.tmp 11) (.tmp 16) 25 rfl w.heap.size 38 i0 (.agg #[.int .u8 0, .string ⟨#[]⟩]) 2 24 Try.underlying25 hi hz0 hz1 hz2 rfl (by decide) _ _ _ rfl (hown.alloc _) ⟨wr.heap.size, 0, none⟩ 1 1 [.int .u8 (t : Int), .string s] rfl rfl SIDE.out.1 SIDE.out.2 SIDE3.out SIDE4.out SIDE5.out ?_; intro v' w1 hown' hgrow hnil)
        have G1 := wider_appendA HG.out HO.out hgrow
        rw [← cellsA_snoc _ ⟨t, s⟩, ← TK.out] at hown'
        clear hgrow hnil hown
        go_wp2
        go_roundw
        case rel => exact ⟨k + 1, by omega, by go_num, hown', G1⟩
        case measure => simp [intOf]; omega
    · obtain rfl : k = n := by omega
      rw [List.take_of_length_le (by have := HN.out; omega)] at hown
      go_wp2
      go_ret
      exact ⟨_, rfl, hg, hown⟩

set_option maxHeartbeats 2000000 in
theorem plain_c (A : Option Addr) (n cap : Nat) (l : List AtN) (w : World) (h : AtsAt w A l) (hn : l.length = n) (hl : n < 1000000) :
    Calls Try.prog 18 #[.slice A n cap] w fun e w' => ∃ v, e = .returned v ∧ Wider w w' ∧ w'.ownsRow w.heap.size 58 2 v n (cellsA l) := by
  have HN := Lib.hid hn
  clear hn
  obtain ⟨i0, hi, hz0, hz1, hz2⟩ := info_parts infoRef
  go_enter Try.func18, Try.ntmps18
  go_wp2
  go_loopw [3, 4] (fun v i wr => ∃ k : Nat, k ≤ n ∧ i = .int .i64 (k : Int) ∧ wr.ownsRow w.heap.size 58 2 v k (cellsA (l.take k)) ∧ Wider w wr) (fun _ i _ => n - (intOf i).toNat)
  case atStart => exact ⟨0, by omega, by simp, World.ownsRow_nil _ _ _ _, Wider.refl w⟩
  case round =>
    obtain ⟨k, hk, rfl, hown, hg⟩ := hrel
    by_cases c : k < n
    · have j0 : (0 : Int) ≤ (k : Int) := by omega
      have j1 : (k : Int) < (n : Int) := by omega
      obtain ⟨x, hx⟩ := next_some l k (by have := HN.out; omega)
      cases A with
      | none => exact absurd (h.none_ rfl) (by intro e; rw [e] at hx; simp at hx)
      | some a =>
        have hA := (h.cell a rfl k x hx).on hg
        have TK := Lib.hid (take_next l k x hx)
        obtain ⟨t, s⟩ := x
        obtain ⟨c0, c1⟩ := hA
        have d1 := AtAt.flat ⟨c0, c1⟩
        simp only at c0 c1 d1
        have SIDE := Lib.hid (lies2 wr (.int .u8 (t : Int)) (.string s) 58 rfl rfl)
        have SIDE3 : Hid (k + 1 ≤ maxLen) := by show k + 1 ≤ maxLen; unfold maxLen; omega
        have SIDE4 : Hid ((k + 1) * 24 ≤ 140737488355328) := by show (k + 1) * 24 ≤ 140737488355328; omega
        have SIDE5 : Hid (w.heap.size ≤ (wr.alloc (.cells #[.int .u8 (t : Int), .string s] 58)).heap.size) := by show _ ≤ _; rw [World.size_alloc]; have := hg.2; omega
        have HG := Lib.hid hg
        have HO := Lib.hid hown
        clear hx hg
        go_wp2_with (at_builtin; refine wpList_append_own _ rfl (.tmp 11) (.tmp 16) 22 rfl w.heap.size 58 i0 (.agg #[.int .u8 0, .string ⟨#[]⟩]) 2 24 Try.underlying22 hi hz0 hz1 hz2 rfl (by decide) _ _ _ rfl (hown.alloc _) ⟨wr.heap.size, 0, none⟩ 1 1 [.int .u8 (t : Int), .string s] rfl rfl SIDE.out.1 SIDE.out.2 SIDE3.out SIDE4.out SIDE5.out ?_; intro v' w1 hown' hgrow hnil)
        have G1 := wider_appendA HG.out HO.out hgrow
        rw [← cellsA_snoc _ ⟨t, s⟩, ← TK.out] at hown'
        clear hgrow hnil hown
        go_wp2
        go_roundw
        case rel => exact ⟨k + 1, by omega, by go_num, hown', G1⟩
        case measure => simp [intOf]; omega
    · obtain rfl : k = n := by omega
      rw [List.take_of_length_le (by have := HN.out; omega)] at hown
      go_wp2
      go_ret
      exact ⟨_, rfl, hg, hown⟩

end Go.Proofs.Ytemfionibnlniaa
