/- Package graph: what its statements call: turned, named, without: by walks of their code. -/
import Derived.Test.YtilebacnjagneaaGFrame
import Derived.Test.YtilebacnjagneaaGPerm
namespace Go.Proofs.Ytilebacnjagneaa
set_option linter.unusedVariables false
open Go.ChangeShapes Go.WideShapes Go.ChangeAt Go.RowKit Go.Joins

set_option maxHeartbeats 2000000 in
theorem gturned_c (id other : Int) (w : World) : Calls Try.prog 30 #[.int .i64 id, .int .i64 other] w fun e w' => e = .returned (.int .i64 (turnG other id)) ∧ w' = w := by
  by_cases h : id = 1
  · have e : turnG other id = other := by unfold turnG; rw [if_pos h]
    subst h
    have HE := Lib.hid e
    clear e
    go_enter Try.func30, Try.ntmps30
    go_wp2
    go_ret
    exact ⟨by rw [HE.out]; rfl, rfl⟩
  · have e1 : (id == 1) = false := by simpa using h
    by_cases k : id = other
    · have e : turnG other id = 1 := by unfold turnG; rw [if_neg h, if_pos k]
      have e2 : (id == other) = true := by simpa using k
      have HE := Lib.hid e
      clear e k
      go_enter Try.func30, Try.ntmps30
      go_wp2
      go_ret
      exact ⟨by rw [HE.out]; rfl, rfl⟩
    · have e : turnG other id = id := by unfold turnG; rw [if_neg h, if_neg k]
      have e2 : (id == other) = false := by simpa using k
      have HE := Lib.hid e
      clear e k
      go_enter Try.func30, Try.ntmps30
      go_wp2
      go_ret
      exact ⟨by rw [HE.out]; rfl, rfl⟩
def hasG (id : Int) (l : List Int) : Bool := l.any fun y => decide (y = id)
def namedB (L : List NodV) (id : Int) : Bool := L.any fun x => hasG id x.goes
theorem namedB_iff {L : List NodV} {id : Int} : namedB L id = true ↔ NamedG L id := by
  unfold namedB hasG NamedG
  simp only [List.any_eq_true, decide_eq_true_eq]
  constructor
  · rintro ⟨x, hx, y, hy, rfl⟩; exact ⟨x, hx, hy⟩
  · rintro ⟨x, hx, hy⟩; exact ⟨x, hx, id, hy, rfl⟩
theorem any_take {α : Type} {p : α → Bool} {l : List α} {i : Nat} {x : α} (h : (l.take i).any p = false) (hx : l[i]? = some x) : (l.take (i + 1)).any p = p x := by
  rw [take_next l i x hx, List.any_append, h, Bool.false_or]
  simp
theorem any_cut {α : Type} {p : α → Bool} {l : List α} (i : Nat) (h : (l.take i).any p = true) : l.any p = true := by
  rw [← List.take_append_drop i l, List.any_append, h, Bool.true_or]
set_option maxRecDepth 20000 in
set_option maxHeartbeats 4000000 in
theorem gnamed_c {w : World} {A : Option Addr} {n c : Nat} {L : List NodV} (hL : NodesAt w A L) (hn : L.length = n) (hF : FewG L) (id : Int) {r : Bool} (hr : namedB L id = r) :
    Calls Try.prog 21 #[.slice A n c, .int .i64 id] w fun e w' => e = .returned (.bool r) ∧ Wider w w' := by
  have H := Wider.refl w
  have hl : n < 100000 := by rw [← hn]; exact hF.1
  have HL := Lib.hid hL
  have HN := Lib.hid hn
  have HF := Lib.hid hF
  have HR := Lib.hid hr
  clear hL hn hF hr
  go_enter Try.func21, Try.ntmps21
  go_wp2
  go_loopw [5] (fun a wr => ∃ i : Nat, i ≤ n ∧ a = .int .i64 (i : Int) ∧ Wider w wr ∧ Hid ((L.take i).any (fun x => hasG id x.goes) = false)) (fun a _ => n - (intOf a).toNat)
  case atStart => exact ⟨0, Nat.zero_le _, rfl, H, Lib.hid rfl⟩
  case round =>
    clear H
    obtain ⟨i, hi0, rfl, H, HI⟩ := hrel
    have q0 : (0 : Int) ≤ (i : Int) := by omega
    by_cases q : i < n
    · have q1 : (i : Int) < (n : Int) := by omega
      obtain ⟨a, x, rfl, hx, A2, n2, c2, K⟩ := HL.out.at (j := i) (by rw [HN.out]; exact q)
      obtain ⟨d0, d1, d2, d3, d4, d5, d6, d7, d8, har, hlen⟩ := K.on H
      have hn2 : n2 < 100000 := by rw [← hlen]; exact (HF.out.2 x (List.mem_of_getElem? hx)).few
      have zs := ggoes_c (c := c2) x har hlen hn2
      have step := any_take HI.out hx
      have hgl := goes_length x
      rw [hlen] at hgl
      obtain ⟨l, hl⟩ : ∃ l, x.goes = l := ⟨_, rfl⟩
      rw [hl] at zs step hgl
      have HG := Lib.hid hgl
      have HST := Lib.hid step
      obtain ⟨id0, size, lo, lw, lu, so, sw, arms, oth⟩ := x
      clear K hx har hlen hgl hl step
      go_wp2_with (first
        | (go_at_call 19; ((with_reducible refine zs.mono ?_); rintro e w1 ⟨B, c', rfl, g, hB⟩; have H1 := H.trans g; have HB := Lib.hid hB; clear zs g hB)))
      clear d0 d1 d2 d3 d4 d5 d6 d7 d8
      go_loopw [7] (fun a wr => ∃ k : Nat, k ≤ n2 + 1 ∧ a = .int .i64 (k : Int) ∧ Wider w1 wr ∧ Hid ((l.take k).any (fun y => decide (y = id)) = false)) (fun a _ => n2 + 1 - (intOf a).toNat)
      case atStart => exact ⟨0, Nat.zero_le _, rfl, Wider.refl _, Lib.hid rfl⟩
      case round =>
        obtain ⟨k, hk0, rfl, G, HK⟩ := hrel
        have z0 : (0 : Int) ≤ (k : Int) := by omega
        by_cases z : k < n2 + 1
        · have z1 : (k : Int) < (n2 : Int) + 1 := by omega
          obtain ⟨b, y, rfl, hy, x0⟩ := HB.out.at (j := k) (by rw [HG.out]; exact z)
          have x0 := wkeep G x0
          have st := any_take HK.out hy
          clear hy
          by_cases y0 : y = id
          · have HE : Hid (true = r) := Lib.hid (by
              rw [← HR.out]
              exact (any_cut (i + 1) (by rw [HST.out]; exact any_cut (k + 1) (by rw [st]; exact decide_eq_true y0))).symm)
            have y1 : (y == id) = true := by simpa using y0
            clear st y0
            go_wp2
            go_ret
            exact ⟨by rw [← HE.out]; rfl, H1.trans G⟩
          · have HS : Hid ((l.take (k + 1)).any (fun y => decide (y = id)) = false) := Lib.hid (by rw [st]; exact decide_eq_false y0)
            have y1 : (y == id) = false := by simpa using y0
            clear st y0
            go_wp2
            go_roundw
            case measure => simp [intOf]; omega
            case rel => exact ⟨k + 1, by omega, by go_num, G, HS⟩
        · have e : k = n2 + 1 := by omega
          subst e
          have z1 : ¬ (((n2 + 1 : Nat) : Int) < (n2 : Int) + 1) := by omega
          have e2 : l.take (n2 + 1) = l := List.take_of_length_le (by rw [HG.out]; exact Nat.le_refl _)
          have HS : Hid ((L.take (i + 1)).any (fun x => hasG id x.goes) = false) := Lib.hid (by rw [HST.out]; unfold hasG; rw [← e2]; exact HK.out)
          clear e2
          go_wp2
          go_roundw
          case measure => simp [intOf]; omega
          case rel => exact ⟨i + 1, by omega, by go_num, H1.trans G, HS⟩
    · have e : i = n := by omega
      subst e
      have q1 : ¬ ((i : Int) < (i : Int)) := by omega
      have e2 : L.take i = L := List.take_of_length_le (by rw [HN.out]; exact Nat.le_refl _)
      have HE : Hid (false = r) := Lib.hid (by rw [← HR.out]; have := HI.out; rw [e2] at this; exact this.symm)
      clear e2
      go_wp2
      go_ret
      exact ⟨by rw [← HE.out]; rfl, H⟩

end Go.Proofs.Ytilebacnjagneaa
