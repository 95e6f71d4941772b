/- The document's ReadList of layer 6: by a walk. -/
import Derived.Test.YtemfionibnlniaaTRefD
import Derived.WalkKit
import Derived.Lib.Hide
import Derived.Deep.DeepCutAuto
import Derived.WalkLawsBesides
import Derived.WalkSpells
import Derived.BigQuiet
import Derived.BigRegion
import Derived.Deep.RegionHeld3
namespace Go.Proofs.Ytemfionibnlniaa
set_option linter.unusedVariables false
open Go.ChangeShapes Go.WideShapes Go.ChangeAt Go.RowKit Go.Joins
open Go.ChangeMaps (open_string shut_string)

theorem infoStr : (Try.prog.info? 9).map (fun i => (i.zero, i.size, i.bytes)) = some (some (.string ⟨#[]⟩), 1, 16) := by kernel_rfl
set_option maxRecDepth 4000 in
set_option maxHeartbeats 8000000 in
theorem rreadlist_c (s : ByteArray) (most : Int) (w : World) (hs : s.size < 1000000) (m0 : -9223372036854775808 ≤ most) (m1 : most ≤ 9223372036854775807) {m : List ByteArray} {c : Nat} (hr : decT [] most s.data.toList = (m, c)) :
    Calls Try.prog 30 #[.string s, .int .i64 most] w fun e w' => ∃ v, e = .returned (.tuple #[v, .int .i64 (c : Int)]) ∧ Wider w w' ∧ w'.ownsRow w.heap.size 9 1 v m.length (cellsS m) := by
  have HR := Lib.hid hr
  obtain ⟨i0, hi, hz0, hz1, hz2⟩ := info_parts infoStr
  clear hr
  go_enter Try.func30, Try.ntmps30
  go_wp2
  go_loopw [0, 6] (fun q v wr => ∃ S : ByteArray, q = .string S ∧ ∃ (acc : List ByteArray) (n : Nat), acc.length = n ∧ (∃ A cap, v = .slice A n cap) ∧ wr.ownsRow w.heap.size 9 1 v n (cellsS acc) ∧ decT acc most S.data.toList = (m, c) ∧ n + S.size ≤ s.size ∧ Wider w wr) (fun q _ _ => strLen q)
  case atStart => exact ⟨s, rfl, [], 0, rfl, ⟨none, 0, rfl⟩, World.ownsRow_nil _ _ _ _, HR.out, by omega, Wider.refl w⟩
  case round =>
    obtain ⟨S, rfl, acc, n, hn, ⟨A, cap, rfl⟩, hown, hd, hl, hg⟩ := hrel
    have HD := Lib.hid hd
    have HN := Lib.hid hn
    have HG := Lib.hid hg
    clear hd hn
    by_cases z0 : S.size = 0
    · have t0 : S.data.toList = [] := List.eq_nil_of_length_eq_zero (by rw [← size_data]; exact z0)
      have s2 : S.toList.isEmpty = true := by rw [ByteArray.toList_eq, t0]; rfl
      have s3 : S.toList = [] := by rw [ByteArray.toList_eq, t0]
      have e := HD.out
      rw [t0, decT_nil] at e
      obtain ⟨rfl, rfl⟩ : acc = m ∧ 0 = c := by injection e with a b; exact ⟨a, b⟩
      have hown2 := hown
      rw [← HN.out] at hown2
      clear t0 z0 e hown
      go_wp2
      go_ret2
      exact ⟨_, by first | rfl | (rw [HN.out]), hg, by first | exact hown2 | (rw [← HN.out]; exact hown2)⟩
    · have s1 := ne_empty S z0
      have s2 := s1.1
      have s3 := s1.2
      clear s1
      by_cases z3 : S.size < 2
      · have d1 : decide ((S.size : Int) < 2) = true := decide_eq_true (by omega)
        have d2 : decide (S.size < 2) = true := decide_eq_true z3
        have e := HD.out
        rw [decT_short _ _ _ (by intro q; apply z0; rw [size_data, q]; rfl) (by rw [← size_data]; exact z3)] at e
        obtain ⟨rfl, rfl⟩ : [] = m ∧ 4 = c := by injection e with a b; exact ⟨a, b⟩
        clear e z0
        go_wp2
        go_ret2
        exact ⟨_, rfl, hg, World.ownsRow_nil _ _ _ _⟩
      · have d1 : decide ((S.size : Int) < 2) = false := decide_eq_false (by omega)
        have d2 : decide (S.size < 2) = false := decide_eq_false z3
        obtain ⟨a, b, r, hS⟩ := pair2 S.data.toList (by rw [← size_data]; omega)
        have zn := fun W : World => rnumber_c S (by omega) a b r hS W
        have hrl : r.length + 2 = S.size := by rw [size_data, hS]; simp
        have e := HD.out
        rw [hS, decT_some, HN.out] at e
        obtain ⟨N, hN⟩ : ∃ N, unword a b = N := ⟨_, rfl⟩
        have hNl := unword_lt a b
        rw [hN] at zn e hNl
        have HS := Lib.hid hS
        clear z0 hN hS
        by_cases q1 : most ≤ (n : Int)
        · rw [if_pos q1] at e
          obtain ⟨rfl, rfl⟩ : [] = m ∧ 3 = c := by injection e with a b; exact ⟨a, b⟩
          have f1 : decide (most ≤ (n : Int)) = true := decide_eq_true q1
          clear e
          go_wp2
          go_ret2
          exact ⟨_, rfl, HG.out, World.ownsRow_nil _ _ _ _⟩
        · have f1 : decide (most ≤ (n : Int)) = false := decide_eq_false q1
          rw [if_neg q1] at e
          by_cases q3 : r.length < N
          · rw [if_pos q3] at e
            obtain ⟨rfl, rfl⟩ : [] = m ∧ 4 = c := by injection e with a b; exact ⟨a, b⟩
            have f6 : decide ((S.size : Int) < 2 + (N : Int)) = true := decide_eq_true (by omega)
            have f7 : decide (S.size < 2 + N) = true := decide_eq_true (by omega)
            clear e
            go_wp2_with (go_at_call 38; ((with_reducible refine (zn _).mono ?_); rintro e w2 ⟨rfl, g⟩; replace HG := htrans HG g; replace hown := ownsRow_wider hown g))
            go_ret2
            exact ⟨_, rfl, HG.out, World.ownsRow_nil _ _ _ _⟩
          · rw [if_neg q3] at e
            have f6 : decide ((S.size : Int) < 2 + (N : Int)) = false := decide_eq_false (by omega)
            have f7 : decide (S.size < 2 + N) = false := decide_eq_false (by omega)
            have i4 : (2 : Int) ≤ 2 + (N : Int) := by omega
            have i5 : 2 + (N : Int) ≤ (S.size : Int) := by omega
            have w1 : IntKind.i64.wrap (2 + (N : Int)) = 2 + (N : Int) := by simp [IntKind.wrap, IntKind.bits, IntKind.signed]; omega
            have w3 : (2 + (N : Int)).toNat = 2 + N := by omega
            have hV : mkB (r.take N) = S.extract 2 (2 + N) := by
              apply ba_ext; rw [mkB_data, extract_list, HS.out]
              rw [show 2 + N = N + 1 + 1 by omega]
              simp
            have hW : (S.extract (2 + N) S.size).data.toList = r.drop N := by
              rw [extract_list, HS.out, List.take_of_length_le (by rw [← HS.out, size_data]; exact Nat.le_refl _)]
              rw [show 2 + N = N + 1 + 1 by omega]; rfl
            have hWs : (S.extract (2 + N) S.size).size = S.size - (2 + N) := by rw [size_data, hW, List.length_drop]; omega
            rw [hV, ← hW] at e
            obtain ⟨V, hV2⟩ : ∃ V, S.extract 2 (2 + N) = V := ⟨_, rfl⟩
            rw [hV2] at e
            have HE := Lib.hid e
            have HW := Lib.hid hWs
            have SIDE := fun w2 : World => Lib.hid (lies1 w2 (.string V) 9 rfl)
            have SIDE3 : Hid (n + 1 ≤ maxLen) := by show n + 1 ≤ maxLen; unfold maxLen; omega
            have SIDE4 : Hid ((n + 1) * 16 ≤ 140737488355328) := by show (n + 1) * 16 ≤ 140737488355328; omega
            clear e hV hW hWs
            go_wp2_with (first
              | (go_at_call 38; ((with_reducible refine (zn _).mono ?_); rintro e w2 ⟨rfl, g⟩; replace HG := htrans HG g; replace hown := ownsRow_wider hown g))
              | (at_builtin; refine wpList_append_own _ rfl (.tmp 24) (.tmp 29) 45 rfl w.heap.size 9 i0 (.string ⟨#[]⟩) 1 16 Try.underlying45 hi hz0 hz1 hz2 rfl (by decide) _ _ _ rfl (hown.alloc _) ⟨w2.heap.size, 0, none⟩ 1 1 [.string V] rfl rfl (SIDE w2).out.1 (SIDE w2).out.2 SIDE3.out SIDE4.out (by show w.heap.size ≤ (w2.heap.push _).size; have := HG.out.2; simp; omega) ?_; intro v' w3 hown' hgrow hnil))
            have G1 := wider_appendA (o := .cells #[.string V] 9) HG.out hown (by exact hgrow)
            rw [← cellsS_snoc] at hown'
            have hv : ∃ A cap, v' = .slice A (n + 1) cap := by
              obtain ⟨A, cap, e, _⟩ := strsAt_own hown'
              exact ⟨A, cap, e⟩
            clear hgrow hnil hown
            go_roundw
            case rel => exact ⟨S.extract (2 + N) S.size, rfl, acc ++ [V], n + 1, by simp [HN.out], hv, hown', HE.out, by have := HW.out; omega, G1⟩
            case measure => simp [strLen]; have := HW.out; omega

end Go.Proofs.Ytemfionibnlniaa
