/- Package rang: texts of one's own, and whether a key is within a range: by walks of its code. -/
import Derived.Test.YtpdhahghpdckeaaVDel
import Derived.Test.YtpdhahghpdckeaaShelf
import Derived.Test.YtpdhahghpdckeaaQuiet
namespace Go.Proofs.Ytpdhahghpdckeaa
set_option linter.unusedVariables false
open Go.ChangeShapes Go.WideShapes Go.ChangeAt Go.RowKit Go.Joins

theorem vwider_below {W w : World} (h : Below W.heap.size W w) : Wider W w := wider_of h.os h.output h.size h.block
theorem vclone_c (s : ByteArray) (hs : s.size < 1000000) (w : World) : Calls Try.prog 31 #[.string s] w fun e w' => e = .returned (.string s) ∧ Wider w w' := by
  have zc := Try.stringslite_Clone s w (by omega)
  go_enter Try.func31, Try.ntmps31
  go_wp2_with (first
    | (go_at_call 32; ((with_reducible refine zc.mono ?_); rintro e w3 ⟨rfl, H⟩)))
  go_ret
  exact ⟨rfl, vwider_below H⟩
set_option maxHeartbeats 2000000 in
theorem vown_c (x : ItR) (hk : x.low.size < 1000000) (hm : x.high.size < 1000000) (w : World) : Calls Try.prog 24 #[aggR x] w fun e w' => e = .returned (aggR x) ∧ Wider w w' := by
  obtain ⟨key, mask, prio, v⟩ := x
  show Calls Try.prog 24 #[.agg #[.string key, .string mask, .int .i64 prio, .int .i64 v]] w fun e w' => e = .returned (.agg #[.string key, .string mask, .int .i64 prio, .int .i64 v]) ∧ Wider w w'
  have zk := vclone_c key hk
  have zm := vclone_c mask hm
  clear hk hm
  have H : Own w w [] := Own.nil (Wider.refl w)
  have H1 := (H.blk #[.string key, .string mask, .int .i64 prio, .int .i64 v] 42).blk #[.string ⟨#[]⟩, .string ⟨#[]⟩, .int .i64 0, .int .i64 0] 42
  go_enter Try.func24, Try.ntmps24
  go_upto_region 1 with (fail)
  obtain ⟨W, hW⟩ : ∃ W, ((w.alloc (.cells #[.string key, .string mask, .int .i64 prio, .int .i64 v] 42)).alloc (.cells #[.string ⟨#[]⟩, .string ⟨#[]⟩, .int .i64 0, .int .i64 0] 42)) = W := ⟨_, rfl⟩
  have hz : (w.alloc (.cells #[.string key, .string mask, .int .i64 prio, .int .i64 v] 42)).heap.size = w.heap.size + 1 := by simp
  rw [hW, hz] at H1
  obtain ⟨B, hB⟩ : ∃ B, w.heap.size = B := ⟨_, rfl⟩
  rw [hB] at H1
  try rw [hW]
  try rw [hB]
  have H1 := H1.swap
  have c0 := blk_cell H1.head 0 (v := .string key) rfl
  have c1 := blk_cell H1.head 1 (v := .string mask) rfl
  have f0 := blk_free H1.head 0
  have f1 := blk_free H1.head 1
  clear hW hz H hB
  go_region_law (first
    | (go_simp; go_at_call 31; ((with_reducible refine (zk _).mono ?_); rintro e w5 ⟨rfl, g⟩; replace H1 := H1.quiet g; replace c0 := wkeep g c0; replace c1 := wkeep g c1; clear g f0 f1; have f0 := blk_free H1.head 0; have f1 := blk_free H1.head 1))
    | (go_simp; go_at_call 31; ((with_reducible refine (zm _).mono ?_); rintro e w6 ⟨rfl, g⟩; replace H1 := H1.quiet g; replace c0 := wkeep g c0; replace c1 := wkeep g c1; clear g f0 f1; have f0 := blk_free H1.head 0; have f1 := blk_free H1.head 1)))
  all_goals
    have H3 := (H1.store 0 (.string key)).store 1 (.string mask)
    obtain ⟨W2, hW2⟩ : ∃ W2, ((w6.setCell ⟨B, 0, none⟩ (.string key)).setCell ⟨B, 1, none⟩ (.string mask)) = W2 := ⟨_, rfl⟩
    rw [hW2] at H3
    try rw [hW2]
    have H4 := ((((H3.swap.store 0 (.string key)).store 1 (.string mask)).store 2 (.int .i64 prio)).store 3 (.int .i64 v)).wider
    have d0 := blk_cell H3.head 0 (v := .string key) rfl
    have d1 := blk_cell H3.head 1 (v := .string mask) rfl
    have d2 := blk_cell H3.head 2 (v := .int .i64 prio) rfl
    have d3 := blk_cell H3.head 3 (v := .int .i64 v) rfl
    have e0 := blk_cell H3.second 0 (v := .string ⟨#[]⟩) rfl
    have e1 := blk_cell H3.second 1 (v := .string ⟨#[]⟩) rfl
    have e2 := blk_cell H3.second 2 (v := .int .i64 0) rfl
    have e3 := blk_cell H3.second 3 (v := .int .i64 0) rfl
    have k0 := blk_free H3.second 0
    have k1 := blk_free H3.second 1
    have k2 := blk_free H3.second 2
    have k3 := blk_free H3.second 3
    have H5 := Lib.hid H4
    clear H1 H3 H4 c0 c1 f0 f1 hW2 zk zm
    go_wp2
    simp [bodyPost, results, Try.results24, go_sem, e0, e1, e2, e3]
    exact H5.out

/-! ### Within a range -/
theorem newR (w : World) (x : ItR) : (w.alloc (.cells #[.string x.low, .string x.high, .int .i64 x.prio, .int .i64 x.v] 42)).cell? ⟨w.heap.size, 0, none⟩ = some (.string x.low)
    ∧ (w.alloc (.cells #[.string x.low, .string x.high, .int .i64 x.prio, .int .i64 x.v] 42)).cell? ⟨w.heap.size, 1, none⟩ = some (.string x.high)
    ∧ (w.alloc (.cells #[.string x.low, .string x.high, .int .i64 x.prio, .int .i64 x.v] 42)).cell? ⟨w.heap.size, 2, none⟩ = some (.int .i64 x.prio)
    ∧ (w.alloc (.cells #[.string x.low, .string x.high, .int .i64 x.prio, .int .i64 x.v] 42)).cell? ⟨w.heap.size, 3, none⟩ = some (.int .i64 x.v) := by
  simp only [World.cell?_alloc_new]
  exact ⟨rfl, rfl, rfl, rfl⟩
def WidthsAt (w : World) (A : Option Addr) (ws : List Nat) : Prop := ∀ (j n : Nat), ws[j]? = some n → ∃ B, A = some ⟨B, 0, none⟩ ∧ w.cell? ⟨B, j, none⟩ = some (.int .i64 (n : Int))
theorem WidthsAt.on {W w : World} {A : Option Addr} {ws : List Nat} (h : WidthsAt W A ws) (g : Wider W w) : WidthsAt w A ws := fun j n hj => by
  obtain ⟨B, e, hc⟩ := h j n hj
  exact ⟨B, e, wkeep g hc⟩
set_option maxRecDepth 20000 in
set_option maxHeartbeats 4000000 in
theorem vwithin_c {w : World} {S c n : Nat} {A : Option Addr} {ws : List Nat} (c0 : w.cell? ⟨S, 0, none⟩ = some (.slice A n c)) (hn : ws.length = n) (hw : WidthsAt w A ws) (h4 : n ≤ 4) (hs : ws.sum ≤ 64)
    {key : ByteArray} {x : ItR} (hk : key.size = ws.sum) (hl : x.low.size = ws.sum) (hh : x.high.size = ws.sum) {r : Bool} (hr : inK ws key x = r) :
    Calls Try.prog 23 #[.pointer (some ⟨S, 0, none⟩), .string key, aggR x] w fun e w' => e = .returned (.bool r) ∧ Wider w w' := by
  obtain ⟨low, high, prio, v⟩ := x
  show Calls Try.prog 23 #[.pointer (some ⟨S, 0, none⟩), .string key, .agg #[.string low, .string high, .int .i64 prio, .int .i64 v]] w _
  have g0 := (Wider.refl w).alloc (.cells #[.string low, .string high, .int .i64 prio, .int .i64 v] 42)
  obtain ⟨x0, x1, _, _⟩ := newR w ⟨low, high, prio, v⟩
  have x0 : (w.alloc (.cells #[.string low, .string high, .int .i64 prio, .int .i64 v] 42)).cell? ⟨w.heap.size, 0, none⟩ = some (.string low) := x0
  have x1 : (w.alloc (.cells #[.string low, .string high, .int .i64 prio, .int .i64 v] 42)).cell? ⟨w.heap.size, 1, none⟩ = some (.string high) := x1
  have c1 := wkeep g0 c0
  have HW := Lib.hid (hw.on g0)
  have HR := Lib.hid hr
  have HK := Lib.hid (And.intro hk (And.intro hl (And.intro hh hs)))
  have HN := Lib.hid hn
  clear c0 hw hr hk hl hh hs hn
  go_enter Try.func23, Try.ntmps23
  go_wp2
  obtain ⟨W, hW⟩ : ∃ W, w.alloc (.cells #[.string low, .string high, .int .i64 prio, .int .i64 v] 42) = W := ⟨_, rfl⟩
  obtain ⟨B5, hB5⟩ : ∃ B, w.heap.size = B := ⟨_, rfl⟩
  rw [hW] at g0 x0 x1 c1 HW
  rw [hB5] at x0 x1
  try rw [hW]
  try rw [hB5]
  clear hW hB5
  go_loopw [7, 17] (fun a b wr => ∃ (i p : Nat), wr = W ∧ i ≤ n ∧ a = .int .i64 (p : Int) ∧ b = .int .i64 (i : Int) ∧ Hid (p = (ws.take i).sum ∧ inF key ⟨low, high, prio, v⟩ p (ws.drop i) = r)) (fun _ b _ => n - (intOf b).toNat)
  case atStart => exact ⟨0, 0, rfl, Nat.zero_le _, rfl, rfl, Lib.hid ⟨rfl, HR.out⟩⟩
  case round =>
    obtain ⟨i, p, rfl, hi0, rfl, rfl, HP⟩ := hrel
    have q0 : (0 : Int) ≤ (i : Int) := by omega
    by_cases c : i < n
    · have q1 : (i : Int) < (n : Int) := by omega
      obtain ⟨m, hm⟩ : ∃ m, ws[i]? = some m := ⟨ws[i]'(by rw [HN.out]; exact c), List.getElem?_eq_getElem _⟩
      obtain ⟨B, rfl, hc⟩ := HW.out i m hm
      have hp := HP.out.1
      have hsum := sum_take_next hm
      have hle := sum_take_le ws (i + 1)
      obtain ⟨hk, hl, hh, hs⟩ := HK.out
      obtain ⟨t, ht⟩ : ∃ t, p + m = t := ⟨_, rfl⟩
      have i1 : IntKind.i64.wrap ((p : Int) + (m : Int)) = (t : Int) := by simp [IntKind.wrap, IntKind.bits, IntKind.signed]; omega
      have i2 : (p : Int) ≤ (t : Int) := by omega
      have i3 : (t : Int) ≤ (key.size : Int) := by omega
      have i4 : (t : Int) ≤ (low.size : Int) := by omega
      have i5 : (t : Int) ≤ (high.size : Int) := by omega
      have i6 : (0 : Int) ≤ (p : Int) := by omega
      have hd : ws.drop i = m :: ws.drop (i + 1) := by
        obtain ⟨hj, rfl⟩ := List.getElem?_eq_some_iff.1 hm
        exact (List.getElem_cons_drop hj).symm
      have hin := HP.out.2
      rw [hd] at hin
      unfold inF at hin
      rw [ht] at hin
      rw [inB_eq] at hin
      have hin : ((!Op.bytesLess (key.extract p t).toList (low.extract p t).toList && (Op.bytesLess (key.extract p t).toList (high.extract p t).toList || (key.extract p t).toList == (high.extract p t).toList)) && inF key ⟨low, high, prio, v⟩ t (ws.drop (i + 1))) = r := hin
      have HT := Lib.hid (And.intro hp (And.intro hsum ht))
      clear hp hsum hle hk hl hh hs ht hd hm HP
      cases ca : Op.bytesLess (key.extract p t).toList (low.extract p t).toList with
      | true =>
        rw [ca] at hin
        have HI := Lib.hid hin
        clear hin
        go_wp2
        go_ret
        refine ⟨?_, g0⟩
        rw [← HI.out]; rfl
      | false =>
        rw [ca] at hin
        cases cb : Op.bytesLess (key.extract p t).toList (high.extract p t).toList || (key.extract p t).toList == (high.extract p t).toList with
        | false =>
          rw [cb] at hin
          have HI := Lib.hid hin
          clear hin
          go_wp2
          go_ret
          refine ⟨?_, g0⟩
          rw [← HI.out]; rfl
        | true =>
          rw [cb] at hin
          have HI := Lib.hid hin
          clear hin
          go_wp2
          go_roundw
          case measure => simp [intOf]; omega
          case rel =>
            refine ⟨i + 1, t, trivial, by omega, rfl, by go_num, Lib.hid ⟨?_, ?_⟩⟩
            · obtain ⟨hp, hsum, ht⟩ := HT.out
              omega
            · have := HI.out
              simpa using this
    · have e : i = n := by omega
      subst e
      have q1 : ¬ ((i : Int) < (i : Int)) := by omega
      go_wp2
      go_ret
      refine ⟨?_, g0⟩
      have h := HP.out.2
      rw [List.drop_eq_nil_of_le (by rw [HN.out]; exact Nat.le_refl _)] at h
      rw [← h]; rfl

end Go.Proofs.Ytpdhahghpdckeaa
