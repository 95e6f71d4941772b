/- Package exact: a gap is closed: by a walk of its code. -/
import Derived.Test.YtgfdigjnecgliaaECodeB
namespace Go.Proofs.Ytgfdigjnecgliaa
set_option linter.unusedVariables false
open Go.ChangeShapes Go.WideShapes Go.ChangeAt Go.RowKit Go.Joins
open Tab

/-- Where a loop that closes a gap stands. -/
def GapAt (V wr : World) (R : List Thing) (B n e : Nat) (F : SlotsE) (a f : Nat) : Prop :=
  ∃ (L : SlotsE) (m : Nat) (st : Option (ByteArray × Int)), Gap L f a e m F ∧ L.length = n ∧ (∀ k v, Has L k v → k.size < 1000000) ∧ Own V wr (blkE B (L.set f st) :: R)
set_option maxHeartbeats 8000000 in
theorem efree_c {V w : World} {R : List Thing} {B : Nat} {L : SlotsE} {n : Nat} (H : Own V w (blkE B L :: R)) (hL : L.length = n) (hn : n < 1000000) (g : GoodE L) {p : Nat} {k : ByteArray} {v : Int} (hp : tk L p = some (k, v)) {F : SlotsE} (hF : shut homeE L.length (L.set p none) p (nx L.length p) = F) :
    Calls Try.prog 24 #[.slice (some ⟨B, 0, none⟩) n n, .int .i64 (p : Int)] w fun e w' => e = .returned (.tuple #[]) ∧ Own V w' (blkE B F :: R) := by
  obtain ⟨e, hg⟩ := Gap.start g hp hF
  have pl := tk_lt hp
  have p9 : p < n := by omega
  have en : e < n := by have := hg.el; rw [List.length_set] at this; omega
  have HS : GapAt V w R B n e F (nx n p) p := ⟨L.set p none, L.length, some (k, v), by rw [hL] at hg ⊢; exact hg, by rw [List.length_set]; exact hL, fun k2 v2 h => by
    obtain ⟨q, hq⟩ := h
    by_cases c : p = q
    · subst c; rw [tk_set_self pl] at hq; cases hq
    · rw [tk_set_ne c] at hq; exact g.keys k2 v2 ⟨q, hq⟩, by rw [set_none_back pl hp]; exact H⟩
  have za := eafter_c p n p9 hn
  obtain ⟨a0, ha0⟩ : ∃ a0, nx n p = a0 := ⟨_, rfl⟩
  rw [ha0] at za HS
  have HS := Lib.hid HS
  clear H hL g hp hF hg ha0 pl
  go_enter Try.func24, Try.ntmps24
  go_wp2_with (first
    | (go_at_call 27; ((with_reducible refine (za _).mono ?_); rintro e w3 ⟨rfl, rfl⟩)))
  go_loopw [1, 5] (fun x y wr => ∃ a f : Nat, x = .int .i64 (a : Int) ∧ y = .int .i64 (f : Int) ∧ GapAt V wr R B n e F a f) (fun x _ _ => D n (intOf x).toNat e)
  case atStart => exact ⟨a0, p, rfl, rfl, HS.out⟩
  case round =>
    clear HS
    obtain ⟨a, f, rfl, rfl, M, m, st, hg, hM, hk, H⟩ := hrel
    have al : a < n := by have := hg.hole.al; omega
    have fl : f < n := by have := hg.hole.fl; omega
    have alM : a < (M.set f st).length := by rw [List.length_set]; omega
    have flM : f < (M.set f st).length := by rw [List.length_set]; omega
    have ne := hg.hole.ne
    have a0' : (0 : Int) ≤ (a : Int) := by omega
    have a1' : (a : Int) < (n : Int) := by omega
    have f0' : (0 : Int) ≤ (f : Int) := by omega
    have f1' : (f : Int) < (n : Int) := by omega
    have ta : tk (M.set f st) a = tk M a := tk_set_ne ne
    obtain ⟨x, hx⟩ : ∃ x, tk M a = x := ⟨_, rfl⟩
    rw [hx] at ta
    obtain ⟨c0, c1, c2⟩ := slot_cells H.head alM ta
    cases x with
    | none =>
      have e1 := hg.done hx
      subst e1
      obtain ⟨d0, d1, d2⟩ := slot_cells H.head flM rfl
      have k0 := blk_free H.head (f * 3)
      have k1 := blk_free H.head (f * 3 + 1)
      have k2 := blk_free H.head (f * 3 + 2)
      have H1 := Own.slot H flM none
      have hb := hg.hole.free
      rw [List.set_set, set_back hg.hole.fl hb] at H1
      simp only [Option.isSome_none] at c2
      clear hg hx ta hM hk H hb
      go_wp2
      simp [bodyPost, results, Try.results24]
      exact H1
    | some y =>
      obtain ⟨k, v⟩ := y
      obtain ⟨m', rfl, hd, hmove, hstay⟩ := hg.step hx
      rw [hM] at hd hmove hstay
      have kz := hk k v ⟨a, hx⟩
      obtain ⟨h0, hh⟩ : ∃ h0, homeE k n = h0 := ⟨_, rfl⟩
      have lt0 : h0 < n := by rw [← hh]; exact homeE_lt k n (by omega)
      have zh := ehome_c k n kz (by omega) hn hh
      rw [hh] at hmove hstay
      obtain ⟨d1, hd1⟩ : ∃ d1, D n h0 f = d1 := ⟨_, rfl⟩
      obtain ⟨d2, hd2⟩ : ∃ d2, D n h0 a = d2 := ⟨_, rfl⟩
      have zs1 := esteps_c h0 f n lt0 fl hn
      have zs2 := esteps_c h0 a n lt0 al hn
      rw [hd1] at hmove hstay zs1
      rw [hd2] at hmove hstay zs2
      obtain ⟨b, hb⟩ : ∃ b, nx n a = b := ⟨_, rfl⟩
      have za := eafter_c a n al hn
      rw [hb] at za hd hmove hstay
      have HD := Lib.hid hd
      have HM := Lib.hid hM
      have HK := Lib.hid hk
      have HX := Lib.hid hx
      have aM : a < M.length := by have := hg.hole.al; omega
      have lM : M.length < 1000000 := by omega
      simp only [Option.isSome_some, keyO, numO] at c0 c1 c2
      clear hg hx ta hM hk hh hd hd1 hd2 hb
      by_cases c : d1 < d2
      · have hm := hmove c
        have HG := Lib.hid hm
        have e1 : decide ((d1 : Int) < (d2 : Int)) = true := decide_eq_true (by omega)
        have e2 : decide (d1 < d2) = true := decide_eq_true c
        clear hmove hstay hm
        go_wp2_with (first
          | (go_at_call 26; ((with_reducible refine (zh _).mono ?_); rintro e w1 ⟨rfl, g⟩; replace H := H.quiet g; obtain ⟨c0, c1, c2⟩ := slot_cells H.head alM ((tk_set_ne ne).trans HX.out); simp only [Option.isSome_some, keyO, numO] at c0 c1 c2; obtain ⟨d0, d1, d2⟩ := slot_cells H.head flM rfl; have k0 := blk_free H.head (f * 3); have k1 := blk_free H.head (f * 3 + 1); have k2 := blk_free H.head (f * 3 + 2); replace H := Own.slot H flM (some (k, v)); clear g))
          | (go_at_call 29; ((with_reducible refine (zs1 _).mono ?_); rintro e w3 ⟨rfl, rfl⟩))
          | (go_at_call 29; ((with_reducible refine (zs2 _).mono ?_); rintro e w3 ⟨rfl, rfl⟩))
          | (go_at_call 27; ((with_reducible refine (za _).mono ?_); rintro e w3 ⟨rfl, rfl⟩)))
        go_roundw
        case rel =>
          refine ⟨b, a, rfl, rfl, (M.set f (some (k, v))).set a none, m', some (k, v), HG.out, by simp [HM.out], fun k2 v2 h => ?_, ?_⟩
          · obtain ⟨q, hq⟩ := h
            by_cases c1 : a = q
            · subst c1; rw [tk_set_self (by simpa using aM)] at hq; cases hq
            · rw [tk_set_ne c1] at hq
              by_cases c2 : f = q
              · subst c2
                rw [tk_set_self (by rw [HM.out]; exact fl)] at hq
                simp only [Option.some.injEq, Prod.mk.injEq] at hq
                rw [← hq.1]; exact kz
              · rw [tk_set_ne c2] at hq; exact HK.out k2 v2 ⟨q, hq⟩
          · rw [set_move aM HX.out ne (stale := st)]; exact H
        case measure => simp [intOf]; have := HD.out; omega
      · have hm := hstay c
        have HG := Lib.hid hm
        have e1 : decide ((d1 : Int) < (d2 : Int)) = false := decide_eq_false (by omega)
        have e2 : decide (d1 < d2) = false := decide_eq_false c
        clear hmove hstay hm
        go_wp2_with (first
          | (go_at_call 26; ((with_reducible refine (zh _).mono ?_); rintro e w1 ⟨rfl, g⟩; replace H := H.quiet g; clear g))
          | (go_at_call 29; ((with_reducible refine (zs1 _).mono ?_); rintro e w3 ⟨rfl, rfl⟩))
          | (go_at_call 29; ((with_reducible refine (zs2 _).mono ?_); rintro e w3 ⟨rfl, rfl⟩))
          | (go_at_call 27; ((with_reducible refine (za _).mono ?_); rintro e w3 ⟨rfl, rfl⟩)))
        go_roundw
        case rel => exact ⟨b, f, rfl, rfl, M, m', st, HG.out, HM.out, HK.out, H⟩
        case measure => simp [intOf]; have := HD.out; omega
end Go.Proofs.Ytgfdigjnecgliaa
