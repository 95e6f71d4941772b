/- Texts that belong together, one behind the other: OOwnH OSpoil. -/
import Derived.Test.YtlldgmdgogkdiaaGreatOMsgA
import Derived.SizedLaws

/- Parts of messages that are set anew; a row's place in a struct. -/
namespace Go.Proofs.YtlldgmdgogkdiaaGreat
set_option linter.unusedVariables false
set_option maxRecDepth 20000
open Go.ChangeShapes Go.WideShapes Go.ChangeAt Go.RowKit Go.Joins
open Go.ChangeMaps (open_string shut_string)

theorem set_in {M : Array Value} {j a b : Nat} (v : Value) (h1 : a ≤ j) (h2 : j < b) (h3 : b ≤ M.size) : (M.setIfInBounds j v).extract a b = (M.extract a b).setIfInBounds (j - a) v := by
  apply Array.ext_getElem?
  intro i
  rw [extract_get _ a b i (by simpa using h3), Array.getElem?_setIfInBounds, Array.getElem?_setIfInBounds, extract_get _ a b i h3, Array.size_extract]
  by_cases c : j = a + i
  · subst c
    rw [if_pos h2, if_pos rfl, if_pos (by omega), if_pos (by omega), if_pos (by omega)]
  · by_cases c2 : a + i < b
    · rw [if_pos c2, if_neg c, if_neg (by omega), if_pos c2]
    · rw [if_neg c2, if_neg (by omega), if_neg c2]
theorem set_out {M : Array Value} {j a b : Nat} (v : Value) (h : j < a ∨ b ≤ j) (h3 : b ≤ M.size) : (M.setIfInBounds j v).extract a b = M.extract a b :=
  extract_same (by simp) (by simpa using h3) fun i h1 h2 => by rw [Array.getElem?_setIfInBounds_ne (by omega)]
theorem set_one {M : Array Value} {j : Nat} {v : Value} (h : M.all (·.oneCell') = true) (hv : v.oneCell' = true) : (M.setIfInBounds j v).all (·.oneCell') = true := by
  rw [Array.all_eq_true_iff_forall_mem] at h ⊢
  intro x hx
  rcases Array.mem_or_eq_of_mem_setIfInBounds hx with k | rfl
  · exact h x k
  · exact hv
theorem fieldRowNode (g : Nat) (w : World) : (Instr.fieldAt 27 (.pointer (some ⟨g, 11, none⟩)) 7).run Tryz.prog w = .ok (.pointer (some ⟨g, 18, none⟩)) w := by
  have h := run_fieldAt (P := Tryz.prog) (i := 7) (n := 0) Tryz.underlying27 rfl (by kernel_rfl) w g 11
  simpa using h
theorem fieldRowTable (g : Nat) (w : World) : (Instr.fieldAt 32 (.pointer (some ⟨g, 25, none⟩)) 2).run Tryz.prog w = .ok (.pointer (some ⟨g, 27, none⟩)) w := by
  have h := run_fieldAt (P := Tryz.prog) (i := 2) (n := 0) Tryz.underlying32 rfl (by kernel_rfl) w g 25
  simpa using h
theorem fieldRowEntry (g : Nat) (w : World) : (Instr.fieldAt 34 (.pointer (some ⟨g, 30, none⟩)) 6).run Tryz.prog w = .ok (.pointer (some ⟨g, 36, none⟩)) w := by
  have h := run_fieldAt (P := Tryz.prog) (i := 6) (n := 0) Tryz.underlying34 rfl (by kernel_rfl) w g 30
  simpa using h
theorem fieldRowBlock (g : Nat) (w : World) : (Instr.fieldAt 37 (.pointer (some ⟨g, 41, none⟩)) 1).run Tryz.prog w = .ok (.pointer (some ⟨g, 42, none⟩)) w := by
  have h := run_fieldAt (P := Tryz.prog) (i := 1) (n := 0) Tryz.underlying37 rfl (by kernel_rfl) w g 41
  simpa using h
theorem fieldRowGroup (g : Nat) (w : World) : (Instr.fieldAt 40 (.pointer (some ⟨g, 43, none⟩)) 3).run Tryz.prog w = .ok (.pointer (some ⟨g, 46, none⟩)) w := by
  have h := run_fieldAt (P := Tryz.prog) (i := 3) (n := 0) Tryz.underlying40 rfl (by kernel_rfl) w g 43
  simpa using h
theorem cell_of {M : Array Value} {o a b : Nat} {v : Value} (j : Nat) (h : (M.extract a b)[j]? = some v) (hb : b ≤ M.size) (e : a + j = o) : M[o]? = some v := by
  subst e
  rw [extract_get M a b j hb] at h
  split at h
  · exact h
  · cases h
end Go.Proofs.YtlldgmdgogkdiaaGreat

/- The helper spoil of layer 8's laws: it writes over lists that lie in new memory, by a walk. -/
namespace Go.Proofs.YtlldgmdgogkdiaaGreat
set_option linter.unusedVariables false
set_option maxRecDepth 20000
open Go.ChangeShapes Go.WideShapes Go.ChangeAt Go.RowKit Go.Joins
open Go.ChangeMaps (open_string shut_string)

/-- A row has so many cells, in a block that is new since V, below b. -/
def Room (V w : World) (b : Nat) (A : Option Addr) (m : Nat) : Prop :=
  m = 0 ∨ ∃ g cur t, A = some ⟨g, 0, none⟩ ∧ w.heap[g]? = some (.cells cur t (0, 0)) ∧ m ≤ cur.size ∧ V.heap.size ≤ g ∧ g < b
theorem Room.nil {V w : World} {b : Nat} {A : Option Addr} : Room V w b A 0 := .inl rfl
theorem Room.on {V W w : World} {b c : Nat} {A : Option Addr} {m : Nat} (h : Room V W b A m) (g : Wider W w) (hb : b ≤ c) : Room V w c A m := by
  rcases h with h | ⟨g1, cur, t, e, hh, hm, h1, h2⟩
  · exact .inl h
  · exact .inr ⟨g1, cur, t, e, wide_blk hh g, hm, h1, by omega⟩
theorem Room.less {V V2 w : World} {b : Nat} {A : Option Addr} {m : Nat} (h : Room V w b A m) (hv : V2.heap.size ≤ V.heap.size) : Room V2 w b A m := by
  rcases h with h | ⟨g1, cur, t, e, hh, hm, h1, h2⟩
  · exact .inl h
  · exact .inr ⟨g1, cur, t, e, hh, hm, by omega, h2⟩
theorem room_owns {w : World} {V : World} {b n size cap : Nat} {e : TypeId} {A : Option Addr} {xs : List Value} (h : w.ownsRow b e size (.slice A n cap) n xs) (hb : V.heap.size ≤ b) : Room V w w.heap.size A (n * size) := by
  rcases h.2 with ⟨q, h0⟩ | ⟨g, cap', cur, q, hg, hh, h1, h2, h3, _⟩
  · exact .inl (by rw [h0, Nat.zero_mul])
  · injection q with q1 q2 q3
    exact .inr ⟨g, cur, e, q1, hh, by rw [h3]; exact Nat.mul_le_mul_right _ h1, by omega, (Array.getElem?_eq_some_iff.1 hh).1⟩
theorem Room.set {V w : World} {b : Nat} {A : Option Addr} {m : Nat} (h : Room V w b A m) (g j : Nat) (v : Value) : Room V (w.setCell ⟨g, j, none⟩ v) b A m := by
  rcases h with h | ⟨g1, cur, t, e, hh, hm, h1, h2⟩
  · exact .inl h
  · by_cases c : g1 = g
    · subst c
      exact .inr ⟨g1, _, t, e, set_blk v hh, by simpa using hm, h1, h2⟩
    · exact .inr ⟨g1, cur, t, e, but_blk hh (setCell_but w ⟨g, j, none⟩ v) c, hm, h1, h2⟩
structure SpoilAt (V : World) (b : Nat) (M : Array Value) (A0 A1 A2 A3 A4 : Option Addr) (m0 m1 m2 m3 m4 : Nat) (w : World) : Prop where
  wide : Wider V w
  box : w.heap[b]? = some (.cells M 46 (0, 0))
  r0 : Room V w b A0 m0
  r1 : Room V w b A1 m1
  r2 : Room V w b A2 m2
  r3 : Room V w b A3 m3
  r4 : Room V w b A4 m4
theorem SpoilAt.set {V : World} {b : Nat} {M : Array Value} {A0 A1 A2 A3 A4 : Option Addr} {m0 m1 m2 m3 m4 : Nat} {w : World} (h : SpoilAt V b M A0 A1 A2 A3 A4 m0 m1 m2 m3 m4 w) {g : Nat} (h1 : V.heap.size ≤ g) (h2 : g < b) (j : Nat) (v : Value) : SpoilAt V b M A0 A1 A2 A3 A4 m0 m1 m2 m3 m4 (w.setCell ⟨g, j, none⟩ v) :=
  ⟨(setCell_but w ⟨g, j, none⟩ v).wider h.wide (fun i m => by simp only [List.mem_singleton] at m; subst m; exact h1), but_blk h.box (setCell_but w ⟨g, j, none⟩ v) (by show b ≠ g; omega), h.r0.set g j v, h.r1.set g j v, h.r2.set g j v, h.r3.set g j v, h.r4.set g j v⟩
theorem SpoilAt.sets {V : World} {b : Nat} {M : Array Value} {A0 A1 A2 A3 A4 : Option Addr} {m0 m1 m2 m3 m4 : Nat} {g : Nat} (h1 : V.heap.size ≤ g) (h2 : g < b) : ∀ (vs : List Value) (j : Nat) (w : World), SpoilAt V b M A0 A1 A2 A3 A4 m0 m1 m2 m3 m4 w → SpoilAt V b M A0 A1 A2 A3 A4 m0 m1 m2 m3 m4 (w.setCells g j vs)
  | [], _, _, h => h
  | v :: vs, j, w, h => SpoilAt.sets h1 h2 vs (j + 1) _ (h.set h1 h2 j v)
theorem blk_there {w : World} {g : Nat} {C : Array Value} {t : TypeId} (h : w.heap[g]? = some (.cells C t (0, 0))) (o n : Nat) (hn : o + n ≤ C.size) : w.there g o n := fun j hj => by
  refine ⟨?_, blk_free h _⟩
  rw [blk_cell h (o + j) (Array.getElem?_eq_getElem (by omega))]
  rfl
set_option maxHeartbeats 16000000 in
theorem spoil_c {V w : World} {M : Array Value} {A0 A1 A2 A3 A4 : Option Addr} {n0 n1 n2 n3 n4 c0 c1 c2 c3 c4 : Nat} (g : Wider V w) (s0 : M.size = 52) (f0 : n0 < 1000000) (e0 : M[18]? = some (.slice A0 n0 c0)) (h0 : Room V w w.heap.size A0 (n0 * 2)) (f1 : n1 < 1000000) (e1 : M[27]? = some (.slice A1 n1 c1)) (h1 : Room V w w.heap.size A1 (n1 * 1)) (f2 : n2 < 1000000) (e2 : M[36]? = some (.slice A2 n2 c2)) (h2 : Room V w w.heap.size A2 (n2 * 1)) (f3 : n3 < 1000000) (e3 : M[42]? = some (.slice A3 n3 c3)) (h3 : Room V w w.heap.size A3 (n3 * 7)) (f4 : n4 < 1000000) (e4 : M[46]? = some (.slice A4 n4 c4)) (h4 : Room V w w.heap.size A4 (n4 * 2)) :
    Calls Tryz.prog 17 #[.agg M] w fun e w' => e = .returned (.tuple #[]) ∧ Wider V w' := by
  have HS : SpoilAt V w.heap.size M A0 A1 A2 A3 A4 (n0 * 2) (n1 * 1) (n2 * 1) (n3 * 7) (n4 * 2) (w.alloc (.cells M 46)) := ⟨g.alloc _, heap_alloc_new w _, h0.on ((Wider.refl w).alloc _) (Nat.le_refl _), h1.on ((Wider.refl w).alloc _) (Nat.le_refl _), h2.on ((Wider.refl w).alloc _) (Nat.le_refl _), h3.on ((Wider.refl w).alloc _) (Nat.le_refl _), h4.on ((Wider.refl w).alloc _) (Nat.le_refl _)⟩
  clear g h0 h1 h2 h3 h4
  go_enter Tryz.func17, Tryz.ntmps17
  go_upto_region 1 with (fail)
  obtain ⟨w1, hw1⟩ : ∃ w1, w.alloc (.cells M 46) = w1 := ⟨_, rfl⟩
  rw [hw1] at HS ⊢
  clear hw1
  go_wp2
  go_loopw [2] (fun i wr => ∃ k : Nat, k ≤ n0 ∧ i = .int .i64 (k : Int) ∧ SpoilAt V w.heap.size M A0 A1 A2 A3 A4 (n0 * 2) (n1 * 1) (n2 * 1) (n3 * 7) (n4 * 2) wr) (fun i _ => n0 - (intOf i).toNat)
  case atStart => exact ⟨0, by omega, by simp, HS⟩
  case round =>
    obtain ⟨k, hk, rfl, HS1⟩ := hrel
    clear HS
    have kc := blk_cell HS1.box 18 e0
    by_cases ck : k < n0
    · have j0 : (0 : Int) ≤ (k : Int) := by omega
      have j1 : (k : Int) < (n0 : Int) := by omega
      rcases HS1.r0 with hz | ⟨gb, cur, t, rfl, hh, hm, hv, hb⟩
      · omega
      · have hlt : k * 2 + 2 ≤ cur.size := by omega
        have kx0 : wr.cell? ⟨gb, k * 2, none⟩ = some cur[k * 2] := blk_cell hh _ (Array.getElem?_eq_getElem (by omega))
        have fx0 := blk_free hh (k * 2)
        have kx1 : wr.cell? ⟨gb, k * 2 + 1, none⟩ = some cur[k * 2 + 1] := blk_cell hh _ (Array.getElem?_eq_getElem (by omega))
        have fx1 := blk_free hh (k * 2 + 1)
        go_wp2_with (first
          | (with_reducible refine wpList_field rfl 46 (.tmp 1) 11 rfl w.heap.size 0 11 rfl (fieldM11 _) ?_)
          | (with_reducible refine wpList_field rfl 27 (.tmp 8) 7 rfl w.heap.size 11 18 rfl (fieldRowNode _ _) ?_)
          | (with_reducible refine wpList_field rfl 27 (.tmp 15) 7 rfl w.heap.size 11 18 rfl (fieldRowNode _ _) ?_))
        have HN := ((HS1.set hv hb (k * 2) (.int .u32 99)).set hv hb (k * 2 + 1) (.int .i64 0))
        go_roundw
        case rel => exact ⟨k + 1, by omega, by go_num, HN⟩
        case measure => simp [intOf]; omega
    · have j1 : ¬ ((k : Nat) : Int) < (n0 : Int) := by omega
      have HS := HS1
      go_upto_region 5 with (first
        | (with_reducible refine wpList_field rfl 46 (.tmp 1) 11 rfl w.heap.size 0 11 rfl (fieldM11 _) ?_)
        | (with_reducible refine wpList_field rfl 27 (.tmp 8) 7 rfl w.heap.size 11 18 rfl (fieldRowNode _ _) ?_)
        | (with_reducible refine wpList_field rfl 27 (.tmp 15) 7 rfl w.heap.size 11 18 rfl (fieldRowNode _ _) ?_))
      go_wp2
      go_loopw [3] (fun i wr => ∃ k : Nat, k ≤ n1 ∧ i = .int .i64 (k : Int) ∧ SpoilAt V w.heap.size M A0 A1 A2 A3 A4 (n0 * 2) (n1 * 1) (n2 * 1) (n3 * 7) (n4 * 2) wr) (fun i _ => n1 - (intOf i).toNat)
      case atStart => exact ⟨0, by omega, by simp, HS⟩
      case round =>
        obtain ⟨k, hk, rfl, HS2⟩ := hrel
        clear HS
        have kc := blk_cell HS2.box 27 e1
        by_cases ck : k < n1
        · have j0 : (0 : Int) ≤ (k : Int) := by omega
          have j1 : (k : Int) < (n1 : Int) := by omega
          rcases HS2.r1 with hz | ⟨gb, cur, t, rfl, hh, hm, hv, hb⟩
          · omega
          · have hlt : k * 1 + 1 ≤ cur.size := by omega
            have kx0 : wr.cell? ⟨gb, k, none⟩ = some cur[k] := blk_cell hh _ (Array.getElem?_eq_getElem (by omega))
            have fx0 := blk_free hh (k)
            go_wp2_with (first
              | (with_reducible refine wpList_field rfl 46 (.tmp 1) 13 rfl w.heap.size 0 25 rfl (fieldM13 _) ?_)
              | (with_reducible refine wpList_field rfl 32 (.tmp 22) 2 rfl w.heap.size 25 27 rfl (fieldRowTable _ _) ?_)
              | (with_reducible refine wpList_field rfl 32 (.tmp 29) 2 rfl w.heap.size 25 27 rfl (fieldRowTable _ _) ?_))
            have HN := (HS2.set hv hb (k) (.int .i64 (-7)))
            go_roundw
            case rel => exact ⟨k + 1, by omega, by go_num, HN⟩
            case measure => simp [intOf]; omega
        · have j1 : ¬ ((k : Nat) : Int) < (n1 : Int) := by omega
          have HS := HS2
          go_upto_region 9 with (first
            | (with_reducible refine wpList_field rfl 46 (.tmp 1) 13 rfl w.heap.size 0 25 rfl (fieldM13 _) ?_)
            | (with_reducible refine wpList_field rfl 32 (.tmp 22) 2 rfl w.heap.size 25 27 rfl (fieldRowTable _ _) ?_)
            | (with_reducible refine wpList_field rfl 32 (.tmp 29) 2 rfl w.heap.size 25 27 rfl (fieldRowTable _ _) ?_))
          go_wp2
          go_loopw [4] (fun i wr => ∃ k : Nat, k ≤ n2 ∧ i = .int .i64 (k : Int) ∧ SpoilAt V w.heap.size M A0 A1 A2 A3 A4 (n0 * 2) (n1 * 1) (n2 * 1) (n3 * 7) (n4 * 2) wr) (fun i _ => n2 - (intOf i).toNat)
          case atStart => exact ⟨0, by omega, by simp, HS⟩
          case round =>
            obtain ⟨k, hk, rfl, HS3⟩ := hrel
            clear HS
            have kc := blk_cell HS3.box 36 e2
            by_cases ck : k < n2
            · have j0 : (0 : Int) ≤ (k : Int) := by omega
              have j1 : (k : Int) < (n2 : Int) := by omega
              rcases HS3.r2 with hz | ⟨gb, cur, t, rfl, hh, hm, hv, hb⟩
              · omega
              · have hlt : k * 1 + 1 ≤ cur.size := by omega
                have kx0 : wr.cell? ⟨gb, k, none⟩ = some cur[k] := blk_cell hh _ (Array.getElem?_eq_getElem (by omega))
                have fx0 := blk_free hh (k)
                go_wp2_with (first
                  | (with_reducible refine wpList_field rfl 46 (.tmp 1) 14 rfl w.heap.size 0 30 rfl (fieldM14 _) ?_)
                  | (with_reducible refine wpList_field rfl 34 (.tmp 35) 6 rfl w.heap.size 30 36 rfl (fieldRowEntry _ _) ?_)
                  | (with_reducible refine wpList_field rfl 34 (.tmp 42) 6 rfl w.heap.size 30 36 rfl (fieldRowEntry _ _) ?_))
                have HN := (HS3.set hv hb (k) (.int .u64 99))
                go_roundw
                case rel => exact ⟨k + 1, by omega, by go_num, HN⟩
                case measure => simp [intOf]; omega
            · have j1 : ¬ ((k : Nat) : Int) < (n2 : Int) := by omega
              have HS := HS3
              go_upto_region 13 with (first
                | (with_reducible refine wpList_field rfl 46 (.tmp 1) 14 rfl w.heap.size 0 30 rfl (fieldM14 _) ?_)
                | (with_reducible refine wpList_field rfl 34 (.tmp 35) 6 rfl w.heap.size 30 36 rfl (fieldRowEntry _ _) ?_)
                | (with_reducible refine wpList_field rfl 34 (.tmp 42) 6 rfl w.heap.size 30 36 rfl (fieldRowEntry _ _) ?_))
              go_wp2
              go_loopw [5] (fun i wr => ∃ k : Nat, k ≤ n3 ∧ i = .int .i64 (k : Int) ∧ SpoilAt V w.heap.size M A0 A1 A2 A3 A4 (n0 * 2) (n1 * 1) (n2 * 1) (n3 * 7) (n4 * 2) wr) (fun i _ => n3 - (intOf i).toNat)
              case atStart => exact ⟨0, by omega, by simp, HS⟩
              case round =>
                obtain ⟨k, hk, rfl, HS4⟩ := hrel
                clear HS
                have kc := blk_cell HS4.box 42 e3
                by_cases ck : k < n3
                · have j0 : (0 : Int) ≤ (k : Int) := by omega
                  have j1 : (k : Int) < (n3 : Int) := by omega
                  rcases HS4.r3 with hz | ⟨gb, cur, t, rfl, hh, hm, hv, hb⟩
                  · omega
                  · have hlt : k * 7 + 7 ≤ cur.size := by omega
                    have kx0 : wr.cell? ⟨gb, k * 7, none⟩ = some cur[k * 7] := blk_cell hh _ (Array.getElem?_eq_getElem (by omega))
                    have fx0 := blk_free hh (k * 7)
                    have kx1 : wr.cell? ⟨gb, k * 7 + 1, none⟩ = some cur[k * 7 + 1] := blk_cell hh _ (Array.getElem?_eq_getElem (by omega))
                    have fx1 := blk_free hh (k * 7 + 1)
                    have kx2 : wr.cell? ⟨gb, k * 7 + 2, none⟩ = some cur[k * 7 + 2] := blk_cell hh _ (Array.getElem?_eq_getElem (by omega))
                    have fx2 := blk_free hh (k * 7 + 2)
                    have kx3 : wr.cell? ⟨gb, k * 7 + 3, none⟩ = some cur[k * 7 + 3] := blk_cell hh _ (Array.getElem?_eq_getElem (by omega))
                    have fx3 := blk_free hh (k * 7 + 3)
                    have kx4 : wr.cell? ⟨gb, k * 7 + 4, none⟩ = some cur[k * 7 + 4] := blk_cell hh _ (Array.getElem?_eq_getElem (by omega))
                    have fx4 := blk_free hh (k * 7 + 4)
                    have kx5 : wr.cell? ⟨gb, k * 7 + 5, none⟩ = some cur[k * 7 + 5] := blk_cell hh _ (Array.getElem?_eq_getElem (by omega))
                    have fx5 := blk_free hh (k * 7 + 5)
                    have kx6 : wr.cell? ⟨gb, k * 7 + 6, none⟩ = some cur[k * 7 + 6] := blk_cell hh _ (Array.getElem?_eq_getElem (by omega))
                    have fx6 := blk_free hh (k * 7 + 6)
                    go_wp2_with (first
                      | (with_reducible refine wpList_field rfl 46 (.tmp 1) 15 rfl w.heap.size 0 41 rfl (fieldM15 _) ?_)
                      | (with_reducible refine wpList_field rfl 37 (.tmp 48) 1 rfl w.heap.size 41 42 rfl (fieldRowBlock _ _) ?_)
                      | (with_reducible refine wpList_field rfl 37 (.tmp 55) 1 rfl w.heap.size 41 42 rfl (fieldRowBlock _ _) ?_))
                    have HN := (((((((HS4.set hv hb (k * 7) (.int .u8 99)).set hv hb (k * 7 + 1) (.int .i64 0)).set hv hb (k * 7 + 2) (.int .u8 0)).set hv hb (k * 7 + 3) (.int .u64 0)).set hv hb (k * 7 + 4) (.int .u8 0)).set hv hb (k * 7 + 5) (.int .u64 0)).set hv hb (k * 7 + 6) (.int .i64 0))
                    go_roundw
                    case rel => exact ⟨k + 1, by omega, by go_num, HN⟩
                    case measure => simp [intOf]; omega
                · have j1 : ¬ ((k : Nat) : Int) < (n3 : Int) := by omega
                  have HS := HS4
                  go_upto_region 17 with (first
                    | (with_reducible refine wpList_field rfl 46 (.tmp 1) 15 rfl w.heap.size 0 41 rfl (fieldM15 _) ?_)
                    | (with_reducible refine wpList_field rfl 37 (.tmp 48) 1 rfl w.heap.size 41 42 rfl (fieldRowBlock _ _) ?_)
                    | (with_reducible refine wpList_field rfl 37 (.tmp 55) 1 rfl w.heap.size 41 42 rfl (fieldRowBlock _ _) ?_))
                  go_wp2
                  go_loopw [6] (fun i wr => ∃ k : Nat, k ≤ n4 ∧ i = .int .i64 (k : Int) ∧ SpoilAt V w.heap.size M A0 A1 A2 A3 A4 (n0 * 2) (n1 * 1) (n2 * 1) (n3 * 7) (n4 * 2) wr) (fun i _ => n4 - (intOf i).toNat)
                  case atStart => exact ⟨0, by omega, by simp, HS⟩
                  case round =>
                    obtain ⟨k, hk, rfl, HS5⟩ := hrel
                    clear HS
                    have kc := blk_cell HS5.box 46 e4
                    by_cases ck : k < n4
                    · have j0 : (0 : Int) ≤ (k : Int) := by omega
                      have j1 : (k : Int) < (n4 : Int) := by omega
                      rcases HS5.r4 with hz | ⟨gb, cur, t, rfl, hh, hm, hv, hb⟩
                      · omega
                      · have hlt : k * 2 + 2 ≤ cur.size := by omega
                        have kx0 : wr.cell? ⟨gb, k * 2, none⟩ = some cur[k * 2] := blk_cell hh _ (Array.getElem?_eq_getElem (by omega))
                        have fx0 := blk_free hh (k * 2)
                        have kx1 : wr.cell? ⟨gb, k * 2 + 1, none⟩ = some cur[k * 2 + 1] := blk_cell hh _ (Array.getElem?_eq_getElem (by omega))
                        have fx1 := blk_free hh (k * 2 + 1)
                        go_wp2_with (first
                          | (with_reducible refine wpList_field rfl 46 (.tmp 1) 16 rfl w.heap.size 0 43 rfl (fieldM16 _) ?_)
                          | (with_reducible refine wpList_field rfl 40 (.tmp 62) 3 rfl w.heap.size 43 46 rfl (fieldRowGroup _ _) ?_)
                          | (with_reducible refine wpList_field rfl 40 (.tmp 69) 3 rfl w.heap.size 43 46 rfl (fieldRowGroup _ _) ?_))
                        have HN := ((HS5.set hv hb (k * 2) (.int .u64 0)).set hv hb (k * 2 + 1) (.int .i64 (-7)))
                        go_roundw
                        case rel => exact ⟨k + 1, by omega, by go_num, HN⟩
                        case measure => simp [intOf]; omega
                    · have j1 : ¬ ((k : Nat) : Int) < (n4 : Int) := by omega
                      have HS := HS5
                      go_wp2_with (first
                        | (with_reducible refine wpList_field rfl 46 (.tmp 1) 16 rfl w.heap.size 0 43 rfl (fieldM16 _) ?_)
                        | (with_reducible refine wpList_field rfl 40 (.tmp 62) 3 rfl w.heap.size 43 46 rfl (fieldRowGroup _ _) ?_)
                        | (with_reducible refine wpList_field rfl 40 (.tmp 69) 3 rfl w.heap.size 43 46 rfl (fieldRowGroup _ _) ?_))
                      simp [bodyPost, results, Tryz.results17]
                      exact HS.wide
end Go.Proofs.YtlldgmdgogkdiaaGreat
