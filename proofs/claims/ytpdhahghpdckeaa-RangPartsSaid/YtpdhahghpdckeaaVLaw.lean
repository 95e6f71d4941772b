/- Package rang: what the laws ask of ranges: within, best, same. -/
import Derived.Test.YtpdhahghpdckeaaVActs
namespace Go.Proofs.Ytpdhahghpdckeaa
set_option linter.unusedVariables false
open Go.ChangeShapes Go.WideShapes Go.ChangeAt Go.RowKit Go.Joins

theorem ext1 (s : ByteArray) (h : 2 < s.size) : (s.extract 2 3).data.toList = [s[2]] := by
  have l : (s.extract 2 3).data.toList = (s.data.toList.take 3).drop 2 := extract_list s 2 3
  rw [l, List.drop_take]
  have e : s.data.toList.drop 2 = s[2] :: s.data.toList.drop 3 := by
    have h2 : 2 < s.data.toList.length := by rw [Array.length_toList]; exact h
    rw [List.drop_eq_getElem_cons h2]; rfl
  rw [e]; rfl
theorem inB_one (k lo hi : ByteArray) (h1 : 2 < k.size) (h2 : 2 < lo.size) (h3 : 2 < hi.size) : inB (k.extract 2 3) (lo.extract 2 3) (hi.extract 2 3) = (decide ((lo[2].toNat : Int) ≤ (k[2].toNat : Int)) && decide ((k[2].toNat : Int) ≤ (hi[2].toNat : Int))) := by
  unfold inB ltB
  rw [ext1 k h1, ext1 lo h2, ext1 hi h3]
  have one : ∀ a b : UInt8, Op.bytesLess [a] [b] = decide ((a.toNat : Int) < (b.toNat : Int)) := fun a b => by
    simp only [Op.bytesLess, Bool.and_false, Bool.or_false, UInt8.lt_iff_toNat_lt]
    exact decide_eq_decide.2 (by omega)
  have eqq : ∀ a b : UInt8, ([a] == [b]) = decide ((a.toNat : Int) = (b.toNat : Int)) := fun a b => by
    by_cases c : a = b
    · subst c; simp
    · have d : ¬ ((a.toNat : Int) = (b.toNat : Int)) := fun e => c (UInt8.toNat_inj.1 (by omega))
      rw [decide_eq_false d]
      simpa using c
  rw [one, one, eqq]
  congr 1
  · rw [← decide_not]
    exact decide_eq_decide.2 (by omega)
  · rw [← Bool.decide_or]
    exact decide_eq_decide.2 (by omega)
theorem ba_extract0 (s : ByteArray) : s.extract 0 (0 + 2) = s.extract 0 2 := rfl
def inL (key : ByteArray) (x : ItR) : Bool := decide (key.size = 3) && inK [2, 1] key x
theorem inK_21 (key : ByteArray) (x : ItR) (hk : key.size = 3) (hl : x.low.size = 3) (hh : x.high.size = 3) :
    inK [2, 1] key x = ((!Op.bytesLess (key.extract 0 2).toList (x.low.extract 0 2).toList && (Op.bytesLess (key.extract 0 2).toList (x.high.extract 0 2).toList || (key.extract 0 2).toList == (x.high.extract 0 2).toList)) &&
      (decide (((x.low[2]'(by omega)).toNat : Int) ≤ ((key[2]'(by omega)).toNat : Int)) && decide (((key[2]'(by omega)).toNat : Int) ≤ ((x.high[2]'(by omega)).toNat : Int)))) := by
  unfold inK inF inF inF
  rw [← inB_eq, ← inB_one key x.low x.high (by omega) (by omega) (by omega)]
  simp
set_option maxRecDepth 20000 in
set_option maxHeartbeats 4000000 in
theorem vin_c (x : ItR) (hl : x.low.size = 3) (hh : x.high.size = 3) (key : ByteArray) {r : Bool} (hr : inL key x = r) (w : World) :
    Calls Try.prog 20 #[aggR x, .string key] w fun e w' => e = .returned (.bool r) ∧ Wider w w' := by
  obtain ⟨low, high, prio, v⟩ := x
  have hl : low.size = 3 := hl
  have hh : high.size = 3 := hh
  show Calls Try.prog 20 #[.agg #[.string low, .string high, .int .i64 prio, .int .i64 v], .string key] w _
  have H := (Wider.refl w).alloc (.cells #[.string low, .string high, .int .i64 prio, .int .i64 v] 42)
  obtain ⟨d0, d1, _, _⟩ := newR w ⟨low, high, prio, v⟩
  have d0 : (w.alloc (.cells #[.string low, .string high, .int .i64 prio, .int .i64 v] 42)).cell? ⟨w.heap.size, 0, none⟩ = some (.string low) := d0
  have d1 : (w.alloc (.cells #[.string low, .string high, .int .i64 prio, .int .i64 v] 42)).cell? ⟨w.heap.size, 1, none⟩ = some (.string high) := d1
  obtain ⟨B, hB⟩ : ∃ B, w.heap.size = B := ⟨_, rfl⟩
  rw [hB] at d0 d1
  unfold inL at hr
  by_cases hk : key.size = 3
  · rw [decide_eq_true hk, Bool.true_and, inK_21 key _ hk hl hh] at hr
    have hr : ((!Op.bytesLess (key.extract 0 2).toList (low.extract 0 2).toList && (Op.bytesLess (key.extract 0 2).toList (high.extract 0 2).toList || (key.extract 0 2).toList == (high.extract 0 2).toList)) &&
      (decide (((low[2]'(by omega)).toNat : Int) ≤ ((key[2]'(by omega)).toNat : Int)) && decide (((key[2]'(by omega)).toNat : Int) ≤ ((high[2]'(by omega)).toNat : Int)))) = r := hr
    have k1 : ((key.size : Int) == 3) = true := by rw [hk]; rfl
    have k2 : (2 : Int) ≤ (key.size : Int) := by omega
    have k3 : (2 : Int) ≤ (low.size : Int) := by omega
    have k4 : (2 : Int) ≤ (high.size : Int) := by omega
    have x1 : 2 < key.size := by omega
    have x2 : 2 < low.size := by omega
    have x3 : 2 < high.size := by omega
    obtain ⟨a0, ha0⟩ : ∃ a0, low[2] = a0 := ⟨_, rfl⟩
    obtain ⟨b0, hb0⟩ : ∃ b0, high[2] = b0 := ⟨_, rfl⟩
    obtain ⟨c0, hc0⟩ : ∃ c0, key[2] = c0 := ⟨_, rfl⟩
    cases a : Op.bytesLess (key.extract 0 2).toList (low.extract 0 2).toList with
    | true =>
      rw [a] at hr
      obtain rfl : false = r := hr
      clear ha0 hb0 hc0
      go_enter Try.func20, Try.ntmps20
      go_upto_region 1 with (fail)
      try rw [hB]
      obtain ⟨W, hW⟩ : ∃ W, w.alloc (.cells #[.string low, .string high, .int .i64 prio, .int .i64 v] 42) = W := ⟨_, rfl⟩
      rw [hW] at H d0 d1 ⊢
      clear hW hB
      have q0 := fun (z : After W) => wkeep z.h d0
      have q1 := fun (z : After W) => wkeep z.h d1
      clear d0 d1
      refine wp_region_after (by kernel_rfl) (by kernel_rfl) (Wider.refl W) ?_
      repeat (go_big_quiet_step (fail))
      refine wpQuiet_nil ?_
      rintro _ ⟨z, rfl⟩
      go_wp2
      go_ret
      exact ⟨rfl, H.trans z.h⟩
    | false =>
      rw [a] at hr
      cases b : (Op.bytesLess (key.extract 0 2).toList (high.extract 0 2).toList || (key.extract 0 2).toList == (high.extract 0 2).toList) with
      | false =>
        rw [b] at hr
        obtain rfl : false = r := hr
        clear ha0 hb0 hc0
        go_enter Try.func20, Try.ntmps20
        go_upto_region 1 with (fail)
        try rw [hB]
        obtain ⟨W, hW⟩ : ∃ W, w.alloc (.cells #[.string low, .string high, .int .i64 prio, .int .i64 v] 42) = W := ⟨_, rfl⟩
        rw [hW] at H d0 d1 ⊢
        clear hW hB
        have q0 := fun (z : After W) => wkeep z.h d0
        have q1 := fun (z : After W) => wkeep z.h d1
        clear d0 d1
        refine wp_region_after (by kernel_rfl) (by kernel_rfl) (Wider.refl W) ?_
        repeat (go_big_quiet_step (fail))
        refine wpQuiet_nil ?_
        rintro _ ⟨z, rfl⟩
        go_wp2
        go_ret
        exact ⟨rfl, H.trans z.h⟩
      | true =>
        rw [b] at hr
        rw [ha0, hb0, hc0] at hr
        by_cases c : (a0.toNat : Int) ≤ (c0.toNat : Int)
        · by_cases d : (c0.toNat : Int) ≤ (b0.toNat : Int)
          · rw [decide_eq_true c, decide_eq_true d] at hr
            obtain rfl : true = r := hr
            go_enter Try.func20, Try.ntmps20
            go_upto_region 1 with (fail)
            try rw [hB]
            obtain ⟨W, hW⟩ : ∃ W, w.alloc (.cells #[.string low, .string high, .int .i64 prio, .int .i64 v] 42) = W := ⟨_, rfl⟩
            rw [hW] at H d0 d1 ⊢
            clear hW hB
            have q0 := fun (z : After W) => wkeep z.h d0
            have q1 := fun (z : After W) => wkeep z.h d1
            clear d0 d1
            refine wp_region_after (by kernel_rfl) (by kernel_rfl) (Wider.refl W) ?_
            repeat (go_big_quiet_step (fail))
            refine wpQuiet_nil ?_
            rintro _ ⟨z, rfl⟩
            go_wp2
            go_ret
            exact ⟨rfl, H.trans z.h⟩
          · rw [decide_eq_true c, decide_eq_false d] at hr
            obtain rfl : false = r := hr
            go_enter Try.func20, Try.ntmps20
            go_upto_region 1 with (fail)
            try rw [hB]
            obtain ⟨W, hW⟩ : ∃ W, w.alloc (.cells #[.string low, .string high, .int .i64 prio, .int .i64 v] 42) = W := ⟨_, rfl⟩
            rw [hW] at H d0 d1 ⊢
            clear hW hB
            have q0 := fun (z : After W) => wkeep z.h d0
            have q1 := fun (z : After W) => wkeep z.h d1
            clear d0 d1
            refine wp_region_after (by kernel_rfl) (by kernel_rfl) (Wider.refl W) ?_
            repeat (go_big_quiet_step (fail))
            refine wpQuiet_nil ?_
            rintro _ ⟨z, rfl⟩
            go_wp2
            go_ret
            exact ⟨rfl, H.trans z.h⟩
        · rw [decide_eq_false c] at hr
          obtain rfl : false = r := hr
          go_enter Try.func20, Try.ntmps20
          go_upto_region 1 with (fail)
          try rw [hB]
          obtain ⟨W, hW⟩ : ∃ W, w.alloc (.cells #[.string low, .string high, .int .i64 prio, .int .i64 v] 42) = W := ⟨_, rfl⟩
          rw [hW] at H d0 d1 ⊢
          clear hW hB
          have q0 := fun (z : After W) => wkeep z.h d0
          have q1 := fun (z : After W) => wkeep z.h d1
          clear d0 d1
          refine wp_region_after (by kernel_rfl) (by kernel_rfl) (Wider.refl W) ?_
          repeat (go_big_quiet_step (fail))
          refine wpQuiet_nil ?_
          rintro _ ⟨z, rfl⟩
          go_wp2
          go_ret
          exact ⟨rfl, H.trans z.h⟩
  · rw [decide_eq_false hk, Bool.false_and] at hr
    subst hr
    have k1 : ((key.size : Int) == 3) = false := by simp; omega
    have k2 : ¬ (key.size : Int) = 3 := by omega
    go_enter Try.func20, Try.ntmps20
    go_upto_region 1 with (fail)
    try rw [hB]
    obtain ⟨W, hW⟩ : ∃ W, w.alloc (.cells #[.string low, .string high, .int .i64 prio, .int .i64 v] 42) = W := ⟨_, rfl⟩
    rw [hW] at H d0 d1 ⊢
    clear hW hB
    have q0 := fun (z : After W) => wkeep z.h d0
    have q1 := fun (z : After W) => wkeep z.h d1
    clear d0 d1
    refine wp_region_after (by kernel_rfl) (by kernel_rfl) (Wider.refl W) ?_
    repeat (go_big_quiet_step (fail))
    refine wpQuiet_nil ?_
    rintro _ ⟨z, rfl⟩
    go_wp2
    go_ret
    exact ⟨rfl, H.trans z.h⟩

/-! ### The best one, as the laws look for it -/
def BestL (key : ByteArray) (L : List ItR) (k : Int) (o : Option ItR) : Prop := (key.size = 3 ∧ BestQ [2, 1] key L k o) ∨ (key.size ≠ 3 ∧ k = -1 ∧ o = none)
theorem BestL.find {key : ByteArray} {L : List ItR} {k : Int} {o : Option ItR} (h : BestL key L k o) : findR [2, 1] key L = o := by
  unfold findR
  rcases h with ⟨e, h⟩ | ⟨e, _, rfl⟩
  · rw [if_pos (by rw [e]; rfl)]; exact h.is
  · rw [if_neg (fun q => e (by rw [q]; rfl))]
theorem BestL.nil (key : ByteArray) : BestL key [] (-1) none := by
  by_cases e : key.size = 3
  · exact .inl ⟨e, .nil _ _⟩
  · exact .inr ⟨e, rfl, rfl⟩
theorem BestL.keep {key : ByteArray} {L : List ItR} {k : Int} {o : Option ItR} (h : BestL key L k o) {x : ItR} (hx : inL key x = false ∨ ∃ y, o = some y ∧ ¬ y.prio < x.prio) : BestL key (L ++ [x]) k o := by
  rcases h with ⟨e, h⟩ | ⟨e, h⟩
  · refine .inl ⟨e, (h.keep ?_).1⟩
    rcases hx with hx | hx
    · unfold inL at hx
      rw [decide_eq_true e, Bool.true_and] at hx
      exact .inl hx
    · exact .inr hx
  · exact .inr ⟨e, h⟩
theorem BestL.step {key : ByteArray} {L : List ItR} {k : Int} {o : Option ItR} (h : BestL key L k o) {x : ItR} (hx : inL key x = true) (hp : ∀ y, o = some y → y.prio < x.prio) : BestL key (L ++ [x]) (L.length : Int) (some x) := by
  unfold inL at hx
  obtain ⟨e, hx⟩ := Bool.and_eq_true_iff.1 hx
  have e := of_decide_eq_true e
  rcases h with ⟨_, h⟩ | ⟨e2, _⟩
  · exact .inl ⟨e, (h.step hx hp).1⟩
  · exact absurd e e2
theorem BestL.cases {key : ByteArray} {L : List ItR} {k : Int} {o : Option ItR} (h : BestL key L k o) : (k = -1 ∧ o = none) ∨ ∃ (j : Nat) (y : ItR), k = (j : Int) ∧ L[j]? = some y ∧ o = some y := by
  rcases h with ⟨e, h⟩ | ⟨_, h⟩
  · rcases h with ⟨h1, h2, _⟩ | ⟨A, B, y, rfl, h1, h2, _⟩
    · exact .inl ⟨h1, h2⟩
    · exact .inr ⟨A.length, y, h1, by rw [List.getElem?_append_right (Nat.le_refl _), Nat.sub_self]; rfl, h2⟩
  · exact .inl h
theorem BestL.less {key : ByteArray} {L : List ItR} {k : Int} {o : Option ItR} (h : BestL key L k o) {j : Nat} (hj : (j : Int) ≠ k) : findR [2, 1] key (L.eraseIdx j) = o := by
  unfold findR
  rcases h with ⟨e, h⟩ | ⟨e, _, rfl⟩
  · rw [if_pos (by rw [e]; rfl)]; exact h.less hj
  · rw [if_neg (fun q => e (by rw [q]; rfl))]
set_option maxRecDepth 20000 in
set_option maxHeartbeats 4000000 in
theorem vbestL_c {w : World} {A : Option Addr} {n c : Nat} {L : List ItR} (hL : ItemsAt w A L) (hn : L.length = n) (hl : n < 1000000) (hs : ∀ x ∈ L, x.low.size = 3 ∧ x.high.size = 3) (key : ByteArray) :
    Calls Try.prog 19 #[.slice A n c, .string key] w fun e w' => ∃ k : Int, e = .returned (.int .i64 k) ∧ Wider w w' ∧ ∃ o, BestL key L k o := by
  have HL := Lib.hid hL
  have HN := Lib.hid hn
  have HS := Lib.hid hs
  clear hL hn hs
  go_enter Try.func19, Try.ntmps19
  go_wp2
  go_loopw [5, 6] (fun a b wr => ∃ (i : Nat) (k : Int), i ≤ n ∧ a = .int .i64 k ∧ b = .int .i64 (i : Int) ∧ Hid (∃ o, BestL key (L.take i) k o) ∧ Wider w wr) (fun _ b _ => n - (intOf b).toNat)
  case atStart => exact ⟨0, -1, Nat.zero_le _, rfl, rfl, Lib.hid ⟨none, BestL.nil key⟩, Wider.refl w⟩
  case round =>
    obtain ⟨i, k, hi0, rfl, rfl, HB, H⟩ := hrel
    have q0 : (0 : Int) ≤ (i : Int) := by omega
    by_cases c : i < n
    · have q1 : (i : Int) < (n : Int) := by omega
      obtain ⟨⟨k1, m1, p1, v1⟩, hy⟩ : ∃ y, L[i]? = some y := ⟨L[i]'(by rw [HN.out]; exact c), List.getElem?_eq_getElem _⟩
      obtain ⟨B, rfl, x0, x1, x2, x3⟩ := HL.out i _ hy
      have x0 := wkeep H x0
      have x1 := wkeep H x1
      have x2 := wkeep H x2
      have x3 := wkeep H x3
      obtain ⟨s1, s2⟩ := HS.out _ (List.mem_of_getElem? hy)
      have ht := takeR_next hy
      obtain ⟨o, hB⟩ := HB.out
      have lt : (L.take i).length = i := by rw [List.length_take, HN.out]; omega
      cases q : inL key ⟨k1, m1, p1, v1⟩ with
      | false =>
        have HX := Lib.hid (show ∃ o, BestL key (L.take (i + 1)) k o from ⟨o, by rw [ht]; exact hB.keep (.inl q)⟩)
        have zin := fun (z : After wr) => vin_c ⟨k1, m1, p1, v1⟩ s1 s2 key q z.w
        have y0 := fun (z : After wr) => wkeep z.h x0
        have y1 := fun (z : After wr) => wkeep z.h x1
        have y2 := fun (z : After wr) => wkeep z.h x2
        have y3 := fun (z : After wr) => wkeep z.h x3
        clear x0 x1 x2 x3 hy s1 s2 ht hB lt q HB
        go_upto_region 5 with (fail)
        refine wp_region_after (by kernel_rfl) (by kernel_rfl) (Wider.refl wr) ?_
        repeat (go_big_quiet_step (first | (go_at_call 20; with_reducible exact quiet_after (zin _))))
        refine wpQuiet_nil ?_
        rintro _ ⟨z, rfl⟩
        have H2 := H.trans z.h
        go_wp2
        go_roundw
        case measure => simp [intOf]; omega
        case rel => exact ⟨i + 1, k, by omega, by go_num, by go_num, HX, H2⟩
      | true =>
        rcases hB.cases with ⟨rfl, rfl⟩ | ⟨j, ⟨k2, m2, p2, v2⟩, rfl, hj, rfl⟩
        · have HX := Lib.hid (show ∃ o, BestL key (L.take (i + 1)) (i : Int) o from ⟨some ⟨k1, m1, p1, v1⟩, by
            have h := hB.step q (fun y e => by cases e)
            rw [lt] at h
            rw [ht]; exact h⟩)
          have zin := fun (z : After wr) => vin_c ⟨k1, m1, p1, v1⟩ s1 s2 key q z.w
          have y0 := fun (z : After wr) => wkeep z.h x0
          have y1 := fun (z : After wr) => wkeep z.h x1
          have y2 := fun (z : After wr) => wkeep z.h x2
          have y3 := fun (z : After wr) => wkeep z.h x3
          clear x0 x1 x2 x3 hy s1 s2 ht hB lt q HB
          go_upto_region 5 with (fail)
          refine wp_region_after (by kernel_rfl) (by kernel_rfl) (Wider.refl wr) ?_
          repeat (go_big_quiet_step (first | (go_at_call 20; with_reducible exact quiet_after (zin _))))
          refine wpQuiet_nil ?_
          rintro _ ⟨z, rfl⟩
          have H2 := H.trans z.h
          go_wp2
          go_roundw
          case measure => simp [intOf]; omega
          case rel => exact ⟨i + 1, (i : Int), by omega, by go_num, by go_num, HX, H2⟩
        · have hji : j < i := by have := (List.getElem?_eq_some_iff.1 hj).1; omega
          have hLj : L[j]? = some ⟨k2, m2, p2, v2⟩ := by rwa [List.getElem?_take, if_pos hji] at hj
          obtain ⟨B', eB, _, _, u2, _⟩ := HL.out j _ hLj
          obtain rfl : B = B' := by injection eB with eB; injection eB
          have u2 := wkeep H u2
          have j0 : (0 : Int) ≤ (j : Int) := by omega
          have j1 : (j : Int) < (n : Int) := by omega
          have j2 : ¬ ((j : Int) < 0) := by omega
          have w2 := fun (z : After wr) => wkeep z.h u2
          have zin := fun (z : After wr) => vin_c ⟨k1, m1, p1, v1⟩ s1 s2 key q z.w
          have y0 := fun (z : After wr) => wkeep z.h x0
          have y1 := fun (z : After wr) => wkeep z.h x1
          have y2 := fun (z : After wr) => wkeep z.h x2
          have y3 := fun (z : After wr) => wkeep z.h x3
          by_cases d : p2 < p1
          · have HX := Lib.hid (show ∃ o, BestL key (L.take (i + 1)) (i : Int) o from ⟨some ⟨k1, m1, p1, v1⟩, by
              have h := hB.step q (fun y e => by cases e; exact d)
              rw [lt] at h
              rw [ht]; exact h⟩)
            clear x0 x1 x2 x3 hy s1 s2 ht hB lt q HB u2 eB hLj hj
            go_upto_region 5 with (fail)
            refine wp_region_after (by kernel_rfl) (by kernel_rfl) (Wider.refl wr) ?_
            repeat (go_big_quiet_step (first | (go_at_call 20; with_reducible exact quiet_after (zin _))))
            refine wpQuiet_nil ?_
            rintro _ ⟨z, rfl⟩
            have H2 := H.trans z.h
            go_wp2
            go_roundw
            case measure => simp [intOf]; omega
            case rel => exact ⟨i + 1, (i : Int), by omega, by go_num, by go_num, HX, H2⟩
          · have HX := Lib.hid (show ∃ o, BestL key (L.take (i + 1)) (j : Int) o from ⟨some ⟨k2, m2, p2, v2⟩, by
              rw [ht]; exact hB.keep (.inr ⟨_, rfl, d⟩)⟩)
            clear x0 x1 x2 x3 hy s1 s2 ht hB lt q HB u2 eB hLj hj
            go_upto_region 5 with (fail)
            refine wp_region_after (by kernel_rfl) (by kernel_rfl) (Wider.refl wr) ?_
            repeat (go_big_quiet_step (first | (go_at_call 20; with_reducible exact quiet_after (zin _))))
            refine wpQuiet_nil ?_
            rintro _ ⟨z, rfl⟩
            have H2 := H.trans z.h
            go_wp2
            go_roundw
            case measure => simp [intOf]; omega
            case rel => exact ⟨i + 1, (j : Int), by omega, by go_num, by go_num, HX, H2⟩
    · have e : i = n := by omega
      subst e
      have q1 : ¬ ((i : Int) < (i : Int)) := by omega
      go_wp2
      go_ret
      refine ⟨k, rfl, H, ?_⟩
      have h := HB.out
      rwa [List.take_of_length_le (by rw [HN.out]; exact Nat.le_refl _)] at h

set_option maxRecDepth 20000 in
set_option maxHeartbeats 4000000 in
theorem vsameL_c {w : World} {A B : Option Addr} {n c d : Nat} {L : List ItR} (hA : ItemsAt w A L) (hB : ItemsAt w B L) (hn : L.length = n) (hl : n < 1000000) :
    Calls Try.prog 18 #[.slice A n c, .slice B n d] w fun e w' => e = .returned (.bool true) ∧ Wider w w' := by
  have HN := Lib.hid hn
  have HA := Lib.hid hA
  have HB := Lib.hid hB
  have e0 : ((n : Int) != (n : Int)) = false := by simp
  have H := Wider.refl w
  clear hn hA hB
  go_enter Try.func18, Try.ntmps18
  go_wp2
  go_loopw [5] (fun b wr => ∃ j : Nat, j ≤ n ∧ b = .int .i64 (j : Int) ∧ Wider w wr) (fun b _ => n - (intOf b).toNat)
  case atStart => exact ⟨0, Nat.zero_le _, rfl, H⟩
  case round =>
    clear H
    obtain ⟨j, hj, rfl, H⟩ := hrel
    have j0 : (0 : Int) ≤ (j : Int) := by omega
    by_cases d1 : j < n
    · have j1 : (j : Int) < (n : Int) := by omega
      obtain ⟨⟨k0, m0, p0, v0⟩, hx⟩ : ∃ x, L[j]? = some x := ⟨L[j]'(by rw [HN.out]; exact d1), List.getElem?_eq_getElem _⟩
      obtain ⟨A1, rfl, x0, x1, x2, x3⟩ := HA.out j _ hx
      obtain ⟨B1, rfl, y0, y1, y2, y3⟩ := HB.out j _ hx
      have x0 := wkeep H x0
      have x1 := wkeep H x1
      have x2 := wkeep H x2
      have x3 := wkeep H x3
      have y0 := wkeep H y0
      have y1 := wkeep H y1
      have y2 := wkeep H y2
      have y3 := wkeep H y3
      clear hx
      go_upto_region 6 with (fail)
      go_quiet (fail)
      have H2 := H.trans ((Wider.refl wr).drewN nq)
      clear H x0 x1 x2 x3 y0 y1 y2 y3
      go_wp2
      go_roundw
      case rel => exact ⟨j + 1, by omega, by go_num, H2⟩
      case measure => simp [intOf]; omega
    · obtain rfl : j = n := by omega
      have j1 : ¬ (j : Int) < (j : Int) := by omega
      go_wp2
      go_ret
      exact ⟨rfl, H⟩

/-! ### A set grown of acts -/
theorem vput_g {V w : World} {R : List Thing} {S N : Nat} {ws : List Nat} {L : List ItR} (h : RangIs V w R S ws L N) (hN : N < 99990) (low high : ByteArray) (prio v : Int) :
    Calls Try.prog 10 #[.pointer (some ⟨S, 0, none⟩), .string low, .string high, .int .i64 prio, .int .i64 v] w fun e w' => ∃ r M, e = .returned (.int .i64 r) ∧ RangIs V w' R S ws M (N + 1) := by
  by_cases c : FormR ws ⟨low, high, prio, v⟩
  · exact (vput_o h hN c rfl).mono fun e w' ⟨e1, h1⟩ => ⟨_, _, e1, h1⟩
  · exact (vputbad_o h c).mono fun e w' ⟨e1, g⟩ => ⟨_, _, e1, (h.quiet g).up (by omega)⟩
theorem vdel_g {V w : World} {R : List Thing} {S N : Nat} {ws : List Nat} {L : List ItR} (h : RangIs V w R S ws L N) (hN : N < 99990) (low high : ByteArray) (prio : Int) :
    Calls Try.prog 12 #[.pointer (some ⟨S, 0, none⟩), .string low, .string high, .int .i64 prio] w fun e w' => ∃ b M, e = .returned (.bool b) ∧ RangIs V w' R S ws M N :=
  (vdel_o h hN rfl rfl).mono fun e w' ⟨e1, h1⟩ => ⟨_, _, e1, h1⟩
set_option maxRecDepth 20000 in
set_option maxHeartbeats 4000000 in
theorem vgrown_c {V w : World} {R : List Thing} (H0 : Own V w R) {A : Option Addr} {n c : Nat} {l : List ActR} (hA : ActsRAt V A l) (hn : l.length = n) (hl : n < 90000) (hz : ∀ y ∈ l, y.Ok) :
    Calls Try.prog 17 #[.slice A n c] w fun e w' => ∃ S L, e = .returned (.pointer (some ⟨S, 0, none⟩)) ∧ RangIs V w' R S [2, 1] L n := by
  have HA := Lib.hid hA
  have HN := Lib.hid hn
  have HZ := Lib.hid hz
  have H : Own V (w.alloc (.cells #[.int .i64 2, .int .i64 1] 3)) R := H0.quiet ((Wider.refl w).alloc _)
  have zn := vnew_o H (n := 2) (c := 2) (widths_lit w [2, 1]) rfl (by decide) (by decide) (by decide)
  clear H hA hn hz H0
  go_enter Try.func17, Try.ntmps17
  go_wp2_with (first
    | (go_at_call 9; ((with_reducible refine zn.mono ?_); rintro e w1 ⟨S, rfl, H0⟩; clear zn)))
  go_loopw [5] (fun i wr => ∃ (k : Nat) (L : List ItR), k ≤ n ∧ i = .int .i64 (k : Int) ∧ RangIs V wr R S [2, 1] L k) (fun i _ => n - (intOf i).toNat)
  case atStart => exact ⟨0, [], Nat.zero_le _, rfl, H0⟩
  case round =>
    clear H0
    obtain ⟨k, L, k0, rfl, H⟩ := hrel
    by_cases q : k < n
    · have q0 : (0 : Int) ≤ (k : Int) := by omega
      have q1 : (k : Int) < (n : Int) := by omega
      have q2 : k < 99990 := by omega
      obtain ⟨x, hx⟩ : ∃ x, l[k]? = some x := ⟨l[k]'(by have := HN.out; omega), List.getElem?_eq_getElem _⟩
      cases A with
      | none => exact absurd (HA.out.none_ rfl) (by intro e; rw [e] at hx; simp at hx)
      | some a =>
        have at_ := (HA.out.cell a rfl k x hx).on H.wider
        have c0 := at_.c0
        have c1 := at_.flat.1
        have c2 := at_.flat.2.1
        have c3 := at_.flat.2.2.1
        have c4 := at_.flat.2.2.2
        have kk := (HZ.out x (List.mem_of_getElem? hx)).k1
        clear at_ hx
        by_cases e : x.what % 4 = 1
        · have e0 : (((x.what : Int) % 4) == 1) = true := by rw [beq_iff_eq]; omega
          have e2 : (x.what : Int).tmod 4 = (x.what : Int) % 4 := Int.tmod_eq_emod_of_nonneg (by omega)
          clear e
          go_upto_region 8 with (fail)
          go_still_tail 16, (by kernel_rfl)
          change wpList _ _ _ _ _ wr.drew
          have H2 := H.quiet (Wider.refl wr).drew
          clear H c0 c1 c2 c3 c4
          go_wp2_with (first
            | (go_at_call 12; ((with_reducible refine (vdel_g H2 q2 _ _ _).mono ?_); rintro e w3 ⟨bb, M, rfl, H3⟩; clear H2)))
          go_roundw
          case rel => exact ⟨k + 1, M, by omega, by go_num, H3.up (by omega)⟩
          case measure => simp [intOf]; omega
        · have e0 : (((x.what : Int) % 4) == 1) = false := by rw [beq_eq_false_iff_ne]; omega
          have e2 : (x.what : Int).tmod 4 = (x.what : Int) % 4 := Int.tmod_eq_emod_of_nonneg (by omega)
          clear e
          go_upto_region 9 with (fail)
          go_still_tail 21, (by kernel_rfl)
          change wpList _ _ _ _ _ wr.drew
          have H2 := H.quiet (Wider.refl wr).drew
          clear H c0 c1 c2 c3 c4
          go_wp2_with (first
            | (go_at_call 10; ((with_reducible refine (vput_g H2 q2 _ _ _ _).mono ?_); rintro e w3 ⟨rr, M, rfl, H3⟩; clear H2)))
          go_roundw
          case rel => exact ⟨k + 1, M, by omega, by go_num, H3⟩
          case measure => simp [intOf]; omega
    · obtain rfl : k = n := by omega
      have q1 : ¬ (k : Int) < (k : Int) := by omega
      go_wp2
      go_ret
      exact ⟨S, rfl, L, H⟩

end Go.Proofs.Ytpdhahghpdckeaa
