/- Package chunk's calls, beside things that a law has made; fed of the statements of layer 7. -/
import Derived.Test.YtcpjhgbbcfbnpaaBlk
import Derived.Test.YtcpjhgbbcfbnpaaKFeed
import Derived.Test.YtcpjhgbbcfbnpaaKRef
import Derived.Test.YtcpjhgbbcfbnpaaRowV
import Derived.Test.YtcpjhgbbcfbnpaaSMake
import Derived.WalkKit
import Derived.Lib.Hide
import Derived.Deep.DeepCutAuto
import Derived.WalkLawsBesides
import Derived.WalkSpells
import Derived.BigQuiet
import Derived.BigRegion
import Derived.Deep.RegionHeld3
namespace Go.Proofs.Ytcpjhgbbcfbnpaa
set_option linter.unusedVariables false
open Go.ChangeShapes Go.WideShapes Go.ChangeAt Go.RowKit Go.Joins
open Go.ChangeMaps (open_string shut_string)

section
variable {V W : World} {L : List Thing}
theorem rkfeed_1 {X : Nat} {x : StrK} (H : Own V W (refK X x :: L)) (s : ByteArray) (hs : s.size < 1000000) (hr : x.r.length < 1000000) {m : List ByteArray} {n c : Nat} {y : StrK} (hf : x.feed s = (m, c, y)) (hn : m.length = n) :
    Calls Try.prog 19 #[.pointer (some ⟨X, 0, none⟩), .string s] W fun e w' => ∃ B c2, e = .returned (.tuple #[.slice B n c2, .int .i64 (c : Int)]) ∧ Own V w' (refK X y :: rowT 9 1 (.slice B n c2) n (cellsS m) :: L) :=
  (rkfeed_c X x y s W H.head hs hr hf).mono fun e w' ⟨v, he, g, h, hrow⟩ => by
    rw [hn] at hrow
    obtain ⟨B, c2, rfl⟩ := ownsRow_shape hrow
    have hX := (H.new _ (.head _) X (by simp)).2
    refine ⟨B, c2, he, H.turnMake (s := refK X y) (q := rowT 9 1 (.slice B n c2) n (cellsS m)) g h (refK_stable _ _) (fun i hi => ⟨.inl hi, ?_⟩) (ownsRow_less hrow (Nat.zero_le _)) (rowT_stable _ _ _ _ _) (fun i hi => hrow.lt i (by simpa using hi)) (fun i hi hx => ?_)⟩
    · have : i = X := by simpa using hi
      subst this
      exact Nat.lt_of_lt_of_le hX g.size
    · have : i = X := by simpa using hx
      subst this
      have := (hrow.lt i (by simpa using hi)).1
      omega

set_option maxRecDepth 4000 in
set_option maxHeartbeats 8000000 in
theorem fed_1 {p : Addr} {x : StrK} {F : List Nat} (H : Own V W (strT p x F :: L)) (A : Option Addr) (n cap : Nat) (l : List ByteArray) (hA : ∀ w M, Own V w M → (∀ r ∈ L, r ∈ M) → StrsAt w A l) (hn : l.length = n) (hl : n < 1000000) (hb : x.r.length + (joinL l).size < 1000000)
    {o : List ByteArray} {d k : Nat} {z : StrK} (hf : fedK x l = (o, d, z)) (hk : o.length = k) :
    Calls Try.prog 21 #[.pointer (some p), .slice A n cap] W fun e w' => ∃ B c2 F', e = .returned (.tuple #[.slice B k c2, .int .i64 (d : Int)]) ∧ Own V w' (strT p z F' :: rowT 9 1 (.slice B k c2) k (cellsS o) :: L) := by
  have HN := Lib.hid hn
  have HF := Lib.hid hf
  have HK := Lib.hid hk
  have HB := Lib.hid hb
  have hA' := Lib.hid hA
  obtain ⟨i0, hi, hz0, hz1, hz2⟩ := info_parts infoStr
  clear hn hf hk hb hA
  have H0 : Own V W (rowT 9 1 (.slice none 0 0) 0 [] :: strT p x F :: L) := H.row (Wider.refl W) (World.ownsRow_nil _ _ _ _)
  clear H
  go_enter Try.func21, Try.ntmps21
  go_wp2
  go_loopw [6, 7, 8] (fun u v i wr => ∃ k : Nat, k ≤ n ∧ i = .int .i64 (k : Int) ∧ ∃ (q : List ByteArray) (e N : Nat) (y : StrK) (B : Option Addr) (c2 : Nat) (F' : List Nat), fedK x (l.take k) = (q, e, y) ∧ q.length = N ∧ u = .slice B N c2 ∧ v = .int .i64 (e : Int) ∧ Own V wr (rowT 9 1 (.slice B N c2) N (cellsS q) :: strT p y F' :: L)) (fun _ _ i _ => n - (intOf i).toNat)
  case atStart => exact ⟨0, by omega, by simp, [], 0, 0, x, none, 0, F, rfl, rfl, rfl, by simp, H0⟩
  case round =>
    clear H0
    obtain ⟨j, hj, rfl, q, e, N, y, B, c2, F', hq, hN, rfl, rfl, H⟩ := hrel
    have HQ := Lib.hid hq
    have HNN := Lib.hid hN
    clear hq hN
    by_cases c : j < n
    · have j0 : (0 : Int) ≤ (j : Int) := by omega
      have j1 : (j : Int) < (n : Int) := by omega
      obtain ⟨s, hs⟩ := next_some l j (by have := HN.out; omega)
      have hst := hA'.out wr _ H (fun r m => .tail _ (.tail _ m))
      cases A with
      | none => exact absurd (hst.none_ rfl) (by intro e; rw [e] at hs; simp at hs)
      | some a =>
        have c0 := hst.cell a rfl j s hs
        have TK := Lib.hid (take_next l j s hs)
        have hlen := fedK_len x (l.take j)
        rw [HQ.out] at hlen
        simp only at hlen
        have hjl : (joinL (l.take (j + 1))).size ≤ (joinL l).size := by
          rw [joinL_size, joinL_size]
          have e : (l.map fun s => s.size).sum = ((l.take (j + 1)).map fun s => s.size).sum + ((l.drop (j + 1)).map fun s => s.size).sum := by
            rw [← List.sum_append, ← List.map_append, List.take_append_drop]
          omega
        rw [TK.out, joinL_snoc, ByteArray.size_append] at hjl
        have hB2 := HB.out
        obtain ⟨⟨m, c', y2⟩, hfd⟩ : ∃ g, y.feed s = g := ⟨_, rfl⟩
        obtain ⟨M, hM⟩ : ∃ M, m.length = M := ⟨_, rfl⟩
        have hml := y.feed_len s
        rw [hfd] at hml
        simp only at hml
        have hN2 := HNN.out
        have hss : s.size < 1000000 := by omega
        have hyr : y.r.length < 1000000 := by omega
        have hL1 : Hid ((cellsS m).length = M * 1) := by show _ = _; rw [cellsS_length, hM]; omega
        have hL3 : Hid (N + M ≤ maxLen) := by show _ ≤ _; unfold maxLen; omega
        have hL4 : Hid ((N + M) * 16 ≤ 140737488355328) := by show _ ≤ _; omega
        have ST : Hid (fedK x (l.take (j + 1)) = (q ++ m, (if e = 0 then c' else e), y2)) := by
          show _ = _
          rw [TK.out, fedK_snoc, HQ.out]
          simp only [stepK, hfd]
        have hLN : Hid ((q ++ m).length = N + M) := by show _ = _; rw [List.length_append, hN2, hM]
        clear hlen hjl hB2 hml hs hN2 hst
        replace H := H.swap
        have cases3 : (c' = 0) ∨ (((c' : Int) != 0) = true ∧ e = 0) ∨ (((c' : Int) != 0) = true ∧ ((e : Int) == 0) = false) := by
          by_cases z : c' = 0
          · exact .inl z
          · have z1 : ((c' : Int) != 0) = true := by rw [bne_iff_ne]; omega
            by_cases z2 : e = 0
            · exact .inr (.inl ⟨z1, z2⟩)
            · exact .inr (.inr ⟨z1, by rw [beq_eq_false_iff_ne]; omega⟩)
        rcases cases3 with rfl | ⟨z1, rfl⟩ | ⟨z1, z2⟩
        all_goals
          as_aux_lemma =>
          go_wp2_with (first
            | (go_at_call 14; ((with_reducible refine (kfeed_1 H s hss hyr hfd hM).mono ?_); clear H c0; rintro e w1 ⟨B3, c3, F3, rfl, H⟩; replace H := H.third))
            | (at_builtin; refine wpList_append_thing rfl (.tmp 26) (.tmp 27) 29 rfl 9 i0 (.string ⟨#[]⟩) 1 16 Try.underlying29 hi hz0 hz1 hz2 rfl (by decide) _ _ _ rfl H B3 M c3 (cellsS m) rfl hL1.out (fun e => by rw [← hM, H.third.strs.none_ e]; rfl) (strs_lay H.third.strs) (cellsS_one m) hL3.out hL4.out rfl (cellsS_append q m).symm ?_; clear H; intro B4 c4 w2 H; replace H := H.third.drop))
          go_roundw
          case rel => exact ⟨j + 1, by omega, by go_num, _, _, _, _, _, _, _, ST.out, hLN.out, rfl, by first | (simp_all; done) | (by_cases he : e = 0 <;> simp [he]), H⟩
          case measure => simp [intOf]; omega
    · obtain rfl : j = n := by omega
      have e2 := HQ.out
      rw [List.take_of_length_le (by have := HN.out; omega), HF.out] at e2
      obtain ⟨rfl, rfl, rfl⟩ : o = q ∧ d = e ∧ z = y := by injection e2 with a b; injection b with b c; exact ⟨a, b, c⟩
      have hk2 : N = k := by rw [← HNN.out, HK.out]
      subst hk2
      clear e2
      go_wp2
      go_ret2
      exact ⟨B, c2, F', rfl, H.swap⟩
end

end Go.Proofs.Ytcpjhgbbcfbnpaa
