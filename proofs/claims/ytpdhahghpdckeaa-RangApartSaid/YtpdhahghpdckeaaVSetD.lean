/- Package rang: a new set, a copy, two sets side by side. -/
import Derived.Test.YtpdhahghpdckeaaVSetC
namespace Go.Proofs.Ytpdhahghpdckeaa
set_option linter.unusedVariables false
open Go.ChangeShapes Go.WideShapes Go.ChangeAt Go.RowKit Go.Joins

variable {V w : World} {R : List Thing} {S N : Nat} {ws : List Nat} {L : List ItR}
def BadW (zs : List Int) : Prop := zs.length < 1 ∨ 4 < zs.length ∨ ∃ z ∈ zs, z < 1 ∨ 16 < z
def IntsAt (w : World) (A : Option Addr) (zs : List Int) : Prop := ∀ (j : Nat) (z : Int), zs[j]? = some z → ∃ B, A = some ⟨B, 0, none⟩ ∧ w.cell? ⟨B, j, none⟩ = some (.int .i64 z)
set_option maxRecDepth 20000 in
set_option maxHeartbeats 4000000 in
theorem vnewbad_c {w : World} {A : Option Addr} {n c : Nat} {zs : List Int} (hz : IntsAt w A zs) (hn : zs.length = n) (hl : n < 1000) (hb : BadW zs) :
    Calls Try.prog 9 #[.slice A n c] w fun e w' => e = .returned (.tuple #[.pointer none, .int .i64 1]) ∧ Wider w w' := by
  have HZ := Lib.hid hz
  have HN := Lib.hid hn
  have HB := Lib.hid hb
  clear hz
  by_cases k1 : n < 1
  · have i1 : (n : Int) < 1 := by omega
    clear hn hb
    go_enter Try.func9, Try.ntmps9
    go_wp2
    simp [bodyPost, results, Try.results9, go_sem]
    exact Wider.refl w
  · have i1 : ¬ (n : Int) < 1 := by omega
    by_cases k2 : 4 < n
    · have i2 : (4 : Int) < (n : Int) := by omega
      clear hn hb
      go_enter Try.func9, Try.ntmps9
      go_wp2
      simp [bodyPost, results, Try.results9, go_sem]
      exact Wider.refl w
    · have i2 : ¬ (4 : Int) < (n : Int) := by omega
      have HE : Hid (∃ z ∈ zs, z < 1 ∨ 16 < z) := Lib.hid (by
        rcases hb with h | h | h
        · omega
        · omega
        · exact h)
      clear hn hb HB
      go_enter Try.func9, Try.ntmps9
      go_wp2
      go_loopw [4, 17] (fun a b wr => ∃ (i : Nat) (p : Int), wr = w ∧ i ≤ n ∧ a = .int .i64 p ∧ b = .int .i64 (i : Int) ∧ Hid (∀ (j : Nat) (z : Int), j < i → zs[j]? = some z → ¬ (z < 1 ∨ 16 < z))) (fun _ b _ => n - (intOf b).toNat)
      case atStart => exact ⟨0, 0, rfl, Nat.zero_le _, rfl, rfl, Lib.hid fun j z h => absurd h (Nat.not_lt_zero _)⟩
      case round =>
        obtain ⟨i, p, rfl, hi0, rfl, rfl, HI⟩ := hrel
        have q0 : (0 : Int) ≤ (i : Int) := by omega
        by_cases c : i < n
        · have q1 : (i : Int) < (n : Int) := by omega
          obtain ⟨z, hzi⟩ : ∃ z, zs[i]? = some z := ⟨zs[i]'(by rw [HN.out]; exact c), List.getElem?_eq_getElem _⟩
          obtain ⟨B, rfl, hc⟩ := HZ.out i z hzi
          have HZI := Lib.hid hzi
          clear hzi
          by_cases a1 : z < 1
          · go_wp2
            simp [bodyPost, results, Try.results9, go_sem]
            exact Wider.refl _
          · by_cases a2 : 16 < z
            · go_wp2
              simp [bodyPost, results, Try.results9, go_sem]
              exact Wider.refl _
            · have HA := Lib.hid (show ¬ (z < 1 ∨ 16 < z) by omega)
              go_wp2
              go_roundw
              case measure => simp [intOf]; omega
              case rel =>
                refine ⟨i + 1, _, trivial, by omega, rfl, by go_num, Lib.hid fun j y hj hy => ?_⟩
                by_cases e : j = i
                · subst e
                  rw [HZI.out] at hy
                  cases hy
                  exact HA.out
                · exact HI.out j y (by omega) hy
        · obtain ⟨z, hm, hbad⟩ := HE.out
          obtain ⟨j, hj⟩ := List.getElem?_of_mem hm
          have hjl := (List.getElem?_eq_some_iff.1 hj).1
          have e := HN.out
          have hji : j < i := by omega
          exact absurd hbad (HI.out j z hji hj)
set_option maxRecDepth 20000 in
set_option maxHeartbeats 4000000 in
theorem vnew_o {V w : World} {R : List Thing} (H : Own V w R) {A : Option Addr} {n c : Nat} {ws : List Nat} (hz : WidthsAt w A ws) (hn : ws.length = n) (h1 : 1 ≤ n) (h4 : n ≤ 4) (h16 : ∀ m ∈ ws, 1 ≤ m ∧ m ≤ 16) :
    Calls Try.prog 9 #[.slice A n c] w fun e w' => ∃ S, e = .returned (.tuple #[.pointer (some ⟨S, 0, none⟩), .int .i64 0]) ∧ RangIs V w' R S ws [] 0 := by
  have HZ := Lib.hid hz
  have HN := Lib.hid hn
  have H16 := Lib.hid h16
  have HS := Lib.hid (sum_le ws h16)
  have i1 : ¬ (n : Int) < 1 := by omega
  have i2 : ¬ (4 : Int) < (n : Int) := by omega
  have zc := vcloneI_c (n := n) (c := c) H (A := A) (xs := intsW ws) (by rw [intsW_length]; exact hn) (by omega) (fun e => by
      subst e
      obtain ⟨m, hm⟩ : ∃ m, ws[0]? = some m := ⟨ws[0]'(by omega), List.getElem?_eq_getElem _⟩
      obtain ⟨B, e, _⟩ := hz 0 m hm
      cases e) (fun a e j u hj => by
      subst e
      obtain ⟨m, hm, rfl⟩ : ∃ m, ws[j]? = some m ∧ Value.int .i64 (m : Int) = u := by simpa [intsW] using hj
      obtain ⟨B, e, hc⟩ := hz j m hm
      cases e
      rw [Addr.add_lit, Nat.zero_add]
      exact hc) (intsW_one ws)
  clear hz hn h16 H
  go_enter Try.func9, Try.ntmps9
  go_wp2
  go_loopw [4, 17] (fun a b wr => ∃ (i p : Nat), wr = w ∧ i ≤ n ∧ a = .int .i64 (p : Int) ∧ b = .int .i64 (i : Int) ∧ Hid (p = (ws.take i).sum)) (fun _ b _ => n - (intOf b).toNat)
  case atStart => exact ⟨0, 0, rfl, Nat.zero_le _, rfl, rfl, Lib.hid rfl⟩
  case round =>
    obtain ⟨i, p, rfl, hi0, rfl, rfl, HI⟩ := hrel
    have q0 : (0 : Int) ≤ (i : Int) := by omega
    by_cases c : i < n
    · have q1 : (i : Int) < (n : Int) := by omega
      obtain ⟨m, hm⟩ : ∃ m, ws[i]? = some m := ⟨ws[i]'(by rw [HN.out]; exact c), List.getElem?_eq_getElem _⟩
      obtain ⟨B, rfl, hc⟩ := HZ.out i m hm
      obtain ⟨m1, m2⟩ := H16.out m (List.mem_of_getElem? hm)
      have a1 : ¬ (m : Int) < 1 := by omega
      have a2 : ¬ (16 : Int) < (m : Int) := by omega
      have hs := sum_take_next hm
      have hp := HI.out
      have hs2 := sum_take_le ws (i + 1)
      have hs3 := HS.out
      have hs4 := HN.out
      have a3 : IntKind.i64.wrap ((p : Int) + (m : Int)) = (p : Int) + (m : Int) := by simp [IntKind.wrap, IntKind.bits, IntKind.signed]; omega
      have HH := Lib.hid (show p + m = (ws.take (i + 1)).sum by omega)
      clear hm hs hp hs2 hs3 hs4 zc
      go_wp2
      go_roundw
      case measure => simp [intOf]; omega
      case rel => exact ⟨i + 1, p + m, trivial, by omega, by go_num, by go_num, Lib.hid HH.out⟩
    · have e : i = n := by omega
      subst e
      have q1 : ¬ ((i : Int) < (i : Int)) := by omega
      have HP : Hid (p = ws.sum) := Lib.hid (by have := HI.out; rw [List.take_of_length_le (by rw [HN.out]; exact Nat.le_refl _)] at this; exact this)
      go_wp2_with (first
        | (go_at_call 22; ((with_reducible refine zc.mono ?_); rintro e w1 ⟨B, c', rfl, H1⟩; have H2 := H1.blk #[.slice B i c', .int .i64 (p : Int), .slice none 0 0] 55; clear zc)))
      simp [bodyPost, results, Try.results9, go_sem]
      refine ⟨.slice B i c', .slice none 0 0, ?_, ⟨by rw [HN.out]; exact h4, H16.out, fun x hx => (by cases hx), List.Pairwise.nil, Nat.le_refl _⟩⟩
      have H3 : Own V _ (rowR (.slice none 0 0) [] :: _) := H2.row (Wider.refl _) (World.ownsRow_nil _ _ 42 4)
      have H4 := H3.rot3b
      have e := HP.out
      subst e
      delta rowW
      rw [HN.out]
      exact H4

/-! ### Two sets -/
def RangTwo (V w : World) (R : List Thing) (S : Nat) (ws : List Nat) (L : List ItR) (N : Nat) (T : Nat) (us : List Nat) (M : List ItR) (K : Nat) : Prop :=
  ∃ wv iv, RangIs V w (setT T wv iv us :: rowW wv us :: rowR iv M :: R) S ws L N ∧ GoodR us M K
section
variable {T K : Nat} {us : List Nat} {M : List ItR}
theorem RangTwo.swap (h : RangTwo V w R S ws L N T us M K) : RangTwo V w R T us M K S ws L N := by
  obtain ⟨wv, iv, ⟨wv2, iv2, H, h1⟩, h2⟩ := h
  refine ⟨wv2, iv2, ⟨wv, iv, H.perm ?_, h2⟩, h1⟩
  have p : ([setT S wv2 iv2 ws, rowW wv2 ws, rowR iv2 L] ++ ([setT T wv iv us, rowW wv us, rowR iv M] ++ R)).Perm ([setT T wv iv us, rowW wv us, rowR iv M] ++ ([setT S wv2 iv2 ws, rowW wv2 ws, rowR iv2 L] ++ R)) := by
    rw [← List.append_assoc, ← List.append_assoc]
    exact List.perm_append_comm.append_right R
  exact p
theorem RangTwo.quiet {w' : World} (h : RangTwo V w R S ws L N T us M K) (g : Wider w w') : RangTwo V w' R S ws L N T us M K := by
  obtain ⟨wv, iv, h1, h2⟩ := h; exact ⟨wv, iv, h1.quiet g, h2⟩
theorem RangTwo.wider (h : RangTwo V w R S ws L N T us M K) : Wider V w := by
  obtain ⟨wv, iv, h1, h2⟩ := h; exact h1.wider
theorem RangTwo.rest (h : RangTwo V w R S ws L N T us M K) : Own V w R := by
  obtain ⟨wv, iv, h1, h2⟩ := h; exact h1.rest.drop.drop.drop
theorem RangTwo.up {J : Nat} (h : RangTwo V w R S ws L N T us M K) (k : N ≤ J) : RangTwo V w R S ws L J T us M K := by
  obtain ⟨wv, iv, h1, h2⟩ := h; exact ⟨wv, iv, h1.up k, h2⟩
set_option maxRecDepth 20000 in
set_option maxHeartbeats 4000000 in
theorem vcopy_o (h : RangIs V w R S ws L N) (hN : N < 99990) :
    Calls Try.prog 15 #[.pointer (some ⟨S, 0, none⟩)] w fun e w' => ∃ T, e = .returned (.pointer (some ⟨T, 0, none⟩)) ∧ RangTwo V w' R T ws L N S ws L N := by
  have hl := h.good
  have i0 := hl.len
  obtain ⟨wv, iv, H, _⟩ := h
  have r1 := H.second
  have r2 := H.drop.second
  obtain ⟨D, cw, rfl⟩ := ownsRow_shape r1
  obtain ⟨A, c, rfl⟩ := ownsRow_shape r2
  have c0 := blk_cell H.head 0 (v := .slice D ws.length cw) rfl
  have c1 := blk_cell H.head 1 (v := .int .i64 (ws.sum : Int)) rfl
  have c2 := blk_cell H.head 2 (v := .slice A L.length c) rfl
  have hW := widthsAt r1 rfl
  have hL := itemsAt r2 rfl
  obtain ⟨n, hn⟩ : ∃ n, L.length = n := ⟨_, rfl⟩
  obtain ⟨m, hm⟩ : ∃ m, ws.length = m := ⟨_, rfl⟩
  have hA : ∀ {c : Nat} {E : TypeId} {k : Nat} {D : Option Addr} {n : Nat} {xs : List Value} {W : World}, W.ownsRow 0 E k (.slice D n c) n xs → (D = none → n = 0) ∧ ∀ a, D = some a → ∀ j u, xs[j]? = some u → W.cell? (a.add j) = some u := fun {c E k D n xs W} h => by
    rcases h.2 with ⟨q1, q2⟩ | ⟨g, cap, cur, q, hb, hg, r⟩
    · cases q1
      have e : xs = [] := List.eq_nil_of_length_eq_zero (by rw [h.1, Nat.zero_mul])
      subst e
      exact ⟨fun _ => rfl, fun a e => by cases e⟩
    · cases q
      refine ⟨fun e => (by cases e), fun a e j u hu => ?_⟩
      cases e
      exact h.cells (g := g) rfl j u hu
  have zi := fun {R' : List Thing} (W : World) (HW : Own w W R') => vcloneI_c (n := m) (c := cw) HW (A := D) (xs := intsW ws) (by rw [intsW_length]; exact hm) (by have := hl.w4; omega) (fun e => hm ▸ (hA r1).1 e) (fun a e j u hj => wkeep HW.wider ((hA r1).2 a e j u hj)) (intsW_one ws)
  have zr := fun {R' : List Thing} (W : World) (HW : Own w W R') => vcloneR_c (n := n) (c := c) HW (A := A) (xs := cellsR L) (by rw [cellsR_length, hn]) (by omega) (fun e => hn ▸ (hA r2).1 e) (fun a e j u hj => wkeep HW.wider ((hA r2).2 a e j u hj)) (cellsR_one L)
  have HS : Hid (RangIs V w R S ws L N) := Lib.hid ⟨_, _, H, hl⟩
  rw [hm] at c0
  rw [hn] at c2
  have HL := Lib.hid (And.intro hl (And.intro hm hn))
  have K : Own w w.drew [] := Own.nil (Wider.refl w).drew
  clear hA r1 r2 hW hL hl hm hn i0 H
  obtain ⟨sz, hsz⟩ : ∃ sz, ws.sum = sz := ⟨_, rfl⟩
  rw [hsz] at c1
  have HZ := Lib.hid hsz
  have b0 := c0
  have b1 := c1
  have b2 := c2
  clear hsz
  go_enter Try.func15, Try.ntmps15
  go_upto_region 3 with (fail)
  go_region_law (first
    | (go_simp; go_at_call 22; ((with_reducible refine (zi _ K).mono ?_); rintro e w1 ⟨BI, cI, rfl, KI⟩; clear K zi; have K := KI; clear KI; have b0 := wkeep K.wider c0; have b1 := wkeep K.wider c1; have b2 := wkeep K.wider c2))
    | (go_simp; go_at_call 30; ((with_reducible refine (zr _ K).mono ?_); rintro e w2 ⟨BR, cR, rfl, KR⟩; clear K zr; have K := KR; clear KR; have b0 := wkeep K.wider c0; have b1 := wkeep K.wider c1; have b2 := wkeep K.wider c2)))
  all_goals
    go_wp2
    go_ret
    have K3 := K.blk #[.slice BI m cI, .int .i64 (sz : Int), .slice BR n cR] 55
    obtain ⟨hl, hm, hn⟩ := HL.out
    have e1 := HZ.out
    have h3 := HS.out.over K3
    clear c0 c1 c2 HL HZ HS K K3
    subst e1 hm hn
    refine ⟨_, rfl, RangTwo.swap ⟨.slice BI ws.length cI, .slice BR L.length cR, h3.perm ?_, hl⟩⟩
    exact List.Perm.cons _ (List.Perm.swap _ _ _)
end

end Go.Proofs.Ytpdhahghpdckeaa
