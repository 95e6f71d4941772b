/- Package tern: where a group, or a priority, stands among those in a row: by walks of its code, and of the library's. -/
import Derived.Test.YtjjgdnaejeejlaaUCodeB
namespace Go.Proofs.Ytjjgdnaejeejlaa
set_option linter.unusedVariables false
open Go.ChangeShapes Go.WideShapes Go.ChangeAt Go.RowKit Go.Joins

abbrev aggP (p : PlN) : Value := .agg #[.string p.x.key, .string p.x.mask, .int .i64 p.x.prio, .int .i64 p.x.v, .int .i64 (p.pl : Int)]
theorem urank1_c (p : PlN) (q : Int) (w : World) : Calls Try.prog 61 #[aggP p, .int .i64 q] w fun e w' => e = .returned (.int .i64 (Lib.compareInt q p.x.prio)) ∧ Wider w w' := by
  obtain ⟨⟨key, mask, prio, v⟩, pl⟩ := p
  show Calls Try.prog 61 #[.agg #[.string key, .string mask, .int .i64 prio, .int .i64 v, .int .i64 (pl : Int)], .int .i64 q] w fun e w' => e = .returned (.int .i64 (Lib.compareInt q prio)) ∧ Wider w w'
  have zc := ucompare_c q prio
  have H := (Wider.refl w).alloc (.cells #[.string key, .string mask, .int .i64 prio, .int .i64 v, .int .i64 (pl : Int)] 63)
  go_enter Try.func61, Try.ntmps61
  go_wp2_with (first
    | (go_at_call 37; ((with_reducible refine (zc _).mono ?_); rintro e w1 ⟨rfl, g⟩; replace H := H.trans g; clear g)))
  go_ret
  exact ⟨rfl, H⟩
theorem compareInt_lt (x y : Int) : Lib.compareInt x y < 0 ↔ x < y := by
  unfold Lib.compareInt
  split
  · simp [*]
  · split <;> simp <;> omega
theorem compareInt_zero (x y : Int) : Lib.compareInt x y = 0 ↔ x = y := by
  unfold Lib.compareInt
  split
  · simp; omega
  · split
    · simp; omega
    · simp; omega
/-- The five cells of an item of a row. -/
theorem row_item {w : World} {B : Nat} {ps : List PlN} (hc : ∀ j u, (cellsP ps)[j]? = some u → w.cell? ⟨B, j, none⟩ = some u) {j : Nat} {p : PlN} (hp : ps[j]? = some p) :
    w.cell? ⟨B, j * 5, none⟩ = some (.string p.x.key) ∧ w.cell? ⟨B, j * 5 + 1, none⟩ = some (.string p.x.mask) ∧ w.cell? ⟨B, j * 5 + 2, none⟩ = some (.int .i64 p.x.prio) ∧ w.cell? ⟨B, j * 5 + 3, none⟩ = some (.int .i64 p.x.v) ∧ w.cell? ⟨B, j * 5 + 4, none⟩ = some (.int .i64 (p.pl : Int)) := by
  obtain ⟨a0, a1, a2, a3, a4⟩ := cellsP_at ps j p hp
  exact ⟨hc _ _ a0, hc _ _ a1, hc _ _ a2, hc _ _ a3, hc _ _ a4⟩
/-- Halves. -/
theorem half_lt {p q : Nat} (h : p < q) : p ≤ (p + q) / 2 ∧ (p + q) / 2 < q := by omega
set_option maxRecDepth 20000 in
set_option maxHeartbeats 4000000 in
theorem usearchP_c {w : World} {v : Value} {ps : List PlN} {n : Nat} (h : w.ownsRow 0 63 5 v n (cellsP ps)) (hn : ps.length = n) (hl : n < 1000000) (q : Int) {A B : List PlN} {had : Bool} (r : RankN ps q A B had) :
    Calls Try.prog 60 #[v, .int .i64 q, .func (.func 61) #[] #[]] w fun e w' => e = .returned (.tuple #[.int .i64 (A.length : Int), .bool had]) ∧ Wider w w' := by
  obtain ⟨k, hk⟩ : ∃ k, A.length = k := ⟨_, rfl⟩
  have kn : k ≤ n := by
    rw [← hk, ← hn]
    rcases r.perm with ⟨_, p, _, e⟩ | ⟨_, e, _⟩ <;> (rw [e]; simp)
  have cmp : ∀ j p, ps[j]? = some p → ((Lib.compareInt q p.x.prio < 0 ↔ j < k) ∧ (j = k → (Lib.compareInt q p.x.prio = 0 ↔ had = true))) := by
    intro j p hp
    rw [compareInt_lt, compareInt_zero, ← hk]
    cases r with
    | had p0 e hp0 hA hB =>
      rw [e] at hp
      refine ⟨at_split (f := fun p : PlN => q < p.x.prio) hA (fun x hx => ?_) hp, fun e2 => ?_⟩
      · rcases List.mem_cons.1 hx with rfl | hx
        · show ¬ q < _; omega
        · have := hB x hx; show ¬ q < _; omega
      · subst e2
        rw [List.getElem?_append_right (Nat.le_refl _), Nat.sub_self] at hp
        obtain rfl : p0 = p := by simpa using hp
        simp [hp0]
    | new e hA hB =>
      rw [e] at hp
      refine ⟨at_split (f := fun p : PlN => q < p.x.prio) hA (fun x hx => by have := hB x hx; show ¬ q < _; omega) hp, fun e2 => ?_⟩
      subst e2
      rw [List.getElem?_append_right (Nat.le_refl _)] at hp
      have := hB p (List.mem_of_getElem? hp)
      simp; omega
  have hadk : k = n → had = false := fun e => by
    rcases r.perm with ⟨_, p, _, e2⟩ | ⟨e1, _⟩
    · have := congrArg List.length e2
      rw [List.length_append, List.length_cons, hk, hn] at this; omega
    · exact e1
  rw [hk]
  have CMP := Lib.hid cmp
  have HN := Lib.hid hn
  have HADK := Lib.hid hadk
  obtain ⟨A0, c, rfl⟩ := ownsRow_shape h
  have H := Lib.hid h
  have HS : Hid (∀ j, j < n → ∃ B, A0 = some ⟨B, 0, none⟩ ∧ ∀ i u, (cellsP ps)[i]? = some u → w.cell? ⟨B, i, none⟩ = some u) := Lib.hid fun j hj => by
    obtain ⟨B, c2, e, hc⟩ := row_slice H.out (by omega)
    injection e with e1
    exact ⟨B, e1, hc⟩
  have HW : Wider w w := Wider.refl w
  clear h r hk cmp hadk hn H
  go_enter Try.func60, Try.ntmps60
  go_wp2
  go_loopw [9, 10] (fun i j wr => ∃ a b : Nat, a ≤ k ∧ k ≤ b ∧ b ≤ n ∧ i = .int .i64 (a : Int) ∧ j = .int .i64 (b : Int) ∧ Wider w wr) (fun i j _ => (intOf j - intOf i).toNat)
  case atStart => exact ⟨0, n, by omega, kn, by omega, by simp, rfl, HW⟩
  case round =>
    obtain ⟨a, b, ha, hb, hbn, rfl, rfl, g⟩ := hrel
    by_cases c0 : a < b
    · obtain ⟨h, hh⟩ : ∃ h, (a + b) / 2 = h := ⟨_, rfl⟩
      have h1 : a ≤ h := by omega
      have h2 : h < b := by omega
      have c1 : (a : Int) < (b : Int) := by omega
      have hh2 : ((a : Int) + (b : Int)) / 2 = (h : Int) := by omega
      have q0 : (0 : Int) ≤ (h : Int) := by omega
      have q1 : (h : Int) < (n : Int) := by omega
      obtain ⟨B, rfl, hc⟩ := HS.out h (by omega)
      obtain ⟨p, hp⟩ : ∃ p, ps[h]? = some p := ⟨ps[h]'(by rw [HN.out]; omega), List.getElem?_eq_getElem _⟩
      obtain ⟨x0, x1, x2, x3, x4⟩ := row_item (fun j u hu => wkeep g (hc j u hu)) hp
      have zr := fun W (_ : True) => urank1_c p q W
      obtain ⟨ci, hci⟩ : ∃ ci, Lib.compareInt q p.x.prio = ci := ⟨_, rfl⟩
      have CM := Lib.hid (CMP.out h p hp)
      rw [hci] at zr CM
      clear hp hc hci
      by_cases d : h < k
      · have e0 : ci < 0 := CM.out.1.2 d
        clear CM
        go_wp2_with (first
          | (go_at_call 61; ((with_reducible refine (zr _ trivial).mono ?_); rintro e w1 ⟨rfl, g1⟩; replace g := g.trans g1; clear g1)))
        go_roundw
        case rel => exact ⟨h + 1, b, by omega, by omega, by omega, by go_num, rfl, g⟩
        case measure => simp [intOf]; omega
      · have e0 : ¬ ci < 0 := fun e => d (CM.out.1.1 e)
        clear CM
        go_wp2_with (first
          | (go_at_call 61; ((with_reducible refine (zr _ trivial).mono ?_); rintro e w1 ⟨rfl, g1⟩; replace g := g.trans g1; clear g1)))
        go_roundw
        case rel => exact ⟨a, h, by omega, by omega, by omega, rfl, rfl, g⟩
        case measure => simp [intOf]; omega
    · obtain rfl : a = b := by omega
      obtain rfl : a = k := by omega
      have c1 : ¬ (a : Int) < (a : Int) := by omega
      by_cases d : a < n
      · obtain ⟨h, hh⟩ : ∃ h, a = h := ⟨_, rfl⟩
        have q0 : (0 : Int) ≤ (h : Int) := by omega
        have q1 : (h : Int) < (n : Int) := by omega
        obtain ⟨B, rfl, hc⟩ := HS.out h (by omega)
        obtain ⟨p, hp⟩ : ∃ p, ps[h]? = some p := ⟨ps[h]'(by rw [HN.out]; omega), List.getElem?_eq_getElem _⟩
        obtain ⟨x0, x1, x2, x3, x4⟩ := row_item (fun j u hu => wkeep g (hc j u hu)) hp
        have zr := fun W (_ : True) => urank1_c p q W
        obtain ⟨ci, hci⟩ : ∃ ci, Lib.compareInt q p.x.prio = ci := ⟨_, rfl⟩
        have CM := Lib.hid (CMP.out h p hp)
        rw [hci] at zr CM
        clear hp hc hci
        subst hh
        have CZ := Lib.hid (CM.out.2 rfl)
        clear CM
        by_cases e : ci = 0
        · have e1 : (ci == 0) = true := by simpa using e
          obtain rfl : had = true := CZ.out.1 e
          clear CZ
          go_wp2_with (first
            | (go_at_call 61; ((with_reducible refine (zr _ trivial).mono ?_); rintro e w1 ⟨rfl, g1⟩; replace g := g.trans g1; clear g1)))
          go_ret2
          exact ⟨rfl, g⟩
        · have e1 : (ci == 0) = false := by rw [beq_eq_false_iff_ne]; exact e
          obtain rfl : had = false := by
            cases had with
            | false => rfl
            | true => exact absurd (CZ.out.2 rfl) e
          clear CZ
          go_wp2_with (first
            | (go_at_call 61; ((with_reducible refine (zr _ trivial).mono ?_); rintro e w1 ⟨rfl, g1⟩; replace g := g.trans g1; clear g1)))
          go_ret2
          exact ⟨rfl, g⟩
      · obtain rfl : a = n := by omega
        have q1 : ¬ (a : Int) < (a : Int) := by omega
        obtain rfl : had = false := HADK.out rfl
        go_wp2
        go_ret2
        exact ⟨rfl, g⟩
theorem urank_c {w : World} {v : Value} {ps : List PlN} {n : Nat} (h : w.ownsRow 0 63 5 v n (cellsP ps)) (hn : ps.length = n) (hl : n < 1000000) (q : Int) {A B : List PlN} {had : Bool} (r : RankN ps q A B had) :
    Calls Try.prog 43 #[v, .int .i64 q] w fun e w' => e = .returned (.tuple #[.int .i64 (A.length : Int), .bool had]) ∧ Wider w w' := by
  have zs := usearchP_c h hn hl q r
  obtain ⟨k, hk⟩ : ∃ k, A.length = k := ⟨_, rfl⟩
  rw [hk] at zs ⊢
  obtain ⟨A0, c, rfl⟩ := ownsRow_shape h
  clear h r hk hn hl
  go_enter Try.func43, Try.ntmps43
  go_wp2_with (first
    | (go_at_call 60; ((with_reducible refine zs.mono ?_); rintro e w1 ⟨rfl, H⟩)))
  go_ret2
  exact ⟨rfl, H⟩
set_option maxRecDepth 20000 in
set_option maxHeartbeats 4000000 in
theorem usearchG_c {w : World} {v : Value} {gs : List GrpN} {n : Nat} (h : w.ownsRow 0 58 1 v n (ptrsU gs)) (hn : gs.length = n) (hl : n < 1000000) (hg : ∀ g ∈ gs, GrpAt w g ∧ 0 < g.pr.length ∧ g.pr.length < 1000000) {t : GrpN} (ht : GrpAt w t ∧ 0 < t.pr.length ∧ t.pr.length < 1000000)
    {A B : List GrpN} (eAB : gs = A ++ B) (hA : ∀ x ∈ A, aheadN x t < 0) (hB : ∀ x ∈ B, ¬ aheadN x t < 0) :
    Calls Try.prog 40 #[v, ptrU t.b, .func (.func 41) #[] #[]] w fun e w' => (∃ had, e = .returned (.tuple #[.int .i64 (A.length : Int), .bool had])) ∧ Wider w w' := by
  obtain ⟨k, hk⟩ : ∃ k, A.length = k := ⟨_, rfl⟩
  have kn : k ≤ n := by
    rw [← hk, ← hn, eAB]
    simp
  have cmp : ∀ j p, gs[j]? = some p → (aheadN p t < 0 ↔ j < k) := by
    intro j p hp
    rw [← hk]
    rw [eAB] at hp
    exact at_split (f := fun p : GrpN => aheadN p t < 0) hA hB hp
  rw [hk]
  have CMP := Lib.hid cmp
  have HN := Lib.hid hn
  have HG := Lib.hid hg
  have HT := Lib.hid ht
  obtain ⟨A0, c, rfl⟩ := ownsRow_shape h
  have H := Lib.hid h
  have HS : Hid (∀ j, j < n → ∃ B, A0 = some ⟨B, 0, none⟩ ∧ ∀ i u, (ptrsU gs)[i]? = some u → w.cell? ⟨B, i, none⟩ = some u) := Lib.hid fun j hj => by
    obtain ⟨B, c2, e, hc⟩ := row_slice H.out (by omega)
    injection e with e1
    exact ⟨B, e1, hc⟩
  have HW : Wider w w := Wider.refl w
  obtain ⟨tb, htb⟩ : ∃ tb, t.b = tb := ⟨_, rfl⟩
  have HTB := Lib.hid htb
  rw [htb]
  clear h hk cmp hn H hA hB eAB hg ht htb
  show Calls Try.prog 40 #[.slice A0 n c, .pointer (some ⟨tb, 0, none⟩), .func (.func 41) #[] #[]] w _
  go_enter Try.func40, Try.ntmps40
  go_wp2
  go_loopw [9, 10] (fun i j wr => ∃ a b : Nat, a ≤ k ∧ k ≤ b ∧ b ≤ n ∧ i = .int .i64 (a : Int) ∧ j = .int .i64 (b : Int) ∧ Wider w wr) (fun i j _ => (intOf j - intOf i).toNat)
  case atStart => exact ⟨0, n, by omega, kn, by omega, by simp, rfl, HW⟩
  case round =>
    obtain ⟨a, b, ha, hb, hbn, rfl, rfl, g⟩ := hrel
    by_cases c0 : a < b
    · obtain ⟨h, hh⟩ : ∃ h, (a + b) / 2 = h := ⟨_, rfl⟩
      have h1 : a ≤ h := by omega
      have h2 : h < b := by omega
      have c1 : (a : Int) < (b : Int) := by omega
      have hh2 : ((a : Int) + (b : Int)) / 2 = (h : Int) := by omega
      have q0 : (0 : Int) ≤ (h : Int) := by omega
      have q1 : (h : Int) < (n : Int) := by omega
      obtain ⟨B, rfl, hc⟩ := HS.out h (by omega)
      obtain ⟨p, hp⟩ : ∃ p, gs[h]? = some p := ⟨gs[h]'(by rw [HN.out]; omega), List.getElem?_eq_getElem _⟩
      have x0 := wkeep g (hc h (ptrU p.b) (by unfold ptrsU; rw [List.getElem?_map, hp]; rfl))
      have pg := HG.out p (List.mem_of_getElem? hp)
      have zr := fun W (k : Wider w W) => uahead_c (pg.1.on k) (HT.out.1.on k) pg.2.1 pg.2.2 HT.out.2.1 HT.out.2.2
      obtain ⟨ci, hci⟩ : ∃ ci, aheadN p t = ci := ⟨_, rfl⟩
      obtain ⟨pb, hpb⟩ : ∃ pb, p.b = pb := ⟨_, rfl⟩
      have CM := Lib.hid (And.intro (CMP.out h p hp) (fun _ : h = h => trivial))
      rw [hci] at zr CM
      rw [HTB.out, hpb] at zr
      rw [hpb] at x0
      unfold ptrU at zr x0
      clear hp hc hci pg hpb
      by_cases d : h < k
      · have e0 : ci < 0 := CM.out.1.2 d
        clear CM
        go_wp2_with (first
          | (go_at_call 41; ((with_reducible refine (zr _ g).mono ?_); rintro e w1 ⟨rfl, g1⟩; replace g := g.trans g1; clear g1)))
        go_roundw
        case rel => exact ⟨h + 1, b, by omega, by omega, by omega, by go_num, rfl, g⟩
        case measure => simp [intOf]; omega
      · have e0 : ¬ ci < 0 := fun e => d (CM.out.1.1 e)
        clear CM
        go_wp2_with (first
          | (go_at_call 41; ((with_reducible refine (zr _ g).mono ?_); rintro e w1 ⟨rfl, g1⟩; replace g := g.trans g1; clear g1)))
        go_roundw
        case rel => exact ⟨a, h, by omega, by omega, by omega, rfl, rfl, g⟩
        case measure => simp [intOf]; omega
    · obtain rfl : a = b := by omega
      obtain rfl : a = k := by omega
      have c1 : ¬ (a : Int) < (a : Int) := by omega
      by_cases d : a < n
      · obtain ⟨h, hh⟩ : ∃ h, a = h := ⟨_, rfl⟩
        have q0 : (0 : Int) ≤ (h : Int) := by omega
        have q1 : (h : Int) < (n : Int) := by omega
        obtain ⟨B, rfl, hc⟩ := HS.out h (by omega)
        obtain ⟨p, hp⟩ : ∃ p, gs[h]? = some p := ⟨gs[h]'(by rw [HN.out]; omega), List.getElem?_eq_getElem _⟩
        have x0 := wkeep g (hc h (ptrU p.b) (by unfold ptrsU; rw [List.getElem?_map, hp]; rfl))
        have pg := HG.out p (List.mem_of_getElem? hp)
        have zr := fun W (k : Wider w W) => uahead_c (pg.1.on k) (HT.out.1.on k) pg.2.1 pg.2.2 HT.out.2.1 HT.out.2.2
        obtain ⟨ci, hci⟩ : ∃ ci, aheadN p t = ci := ⟨_, rfl⟩
        obtain ⟨pb, hpb⟩ : ∃ pb, p.b = pb := ⟨_, rfl⟩
        have CM := Lib.hid (And.intro (CMP.out h p hp) (fun _ : h = h => trivial))
        rw [hci] at zr CM
        rw [HTB.out, hpb] at zr
        rw [hpb] at x0
        unfold ptrU at zr x0
        clear hp hc hci pg hpb
        subst hh
        have CZ := Lib.hid (CM.out.2 rfl)
        clear CM
        by_cases e : ci = 0
        · have e1 : (ci == 0) = true := by simpa using e
          clear CZ
          go_wp2_with (first
            | (go_at_call 41; ((with_reducible refine (zr _ g).mono ?_); rintro e w1 ⟨rfl, g1⟩; replace g := g.trans g1; clear g1)))
          go_ret2
          first | exact ⟨⟨_, rfl⟩, g⟩ | exact ⟨.inl rfl, g⟩
        · have e1 : (ci == 0) = false := by rw [beq_eq_false_iff_ne]; exact e
          clear CZ
          go_wp2_with (first
            | (go_at_call 41; ((with_reducible refine (zr _ g).mono ?_); rintro e w1 ⟨rfl, g1⟩; replace g := g.trans g1; clear g1)))
          go_ret2
          first | exact ⟨⟨_, rfl⟩, g⟩ | exact ⟨.inl rfl, g⟩
      · obtain rfl : a = n := by omega
        have q1 : ¬ (a : Int) < (a : Int) := by omega
        go_wp2
        go_ret2
        first | exact ⟨⟨_, rfl⟩, g⟩ | exact ⟨.inl rfl, g⟩

end Go.Proofs.Ytjjgdnaejeejlaa
