/- Package graph: measure, check, May and Longest: by walks of its code. -/
import Derived.Test.YtilebacnjagneaaGCodeH
import Derived.Laws.EntriesVeiled
namespace Go.Proofs.Ytilebacnjagneaa
set_option linter.unusedVariables false
open Go.ChangeShapes Go.WideShapes Go.ChangeAt Go.RowKit Go.Joins

theorem sorted_one {L : List NodV} (h : SortedG L) : ∀ (i j : Nat) (x y : NodV), L[i]? = some x → L[j]? = some y → x.id = y.id → i = j := by
  intro i j x y hi hj e
  have k := List.pairwise_iff_getElem.1 h
  obtain ⟨li, ei⟩ := List.getElem?_eq_some_iff.1 hi
  obtain ⟨lj, ej⟩ := List.getElem?_eq_some_iff.1 hj
  rcases Nat.lt_trichotomy i j with c | c | c
  · have := k i j li lj c
    rw [ei, ej] at this; omega
  · exact c
  · have := k j i lj li c
    rw [ei, ej] at this; omega
/-- What measure tells. -/
def MeasP (L : List NodV) (S : List Int) (ok : Bool) : Prop := (ok = true ∧ Acyc L ∧ S.length = L.length ∧ ∀ (j : Nat) (x : NodV), L[j]? = some x → ∃ m : Nat, S[j]? = some (m : Int) ∧ Dep L x.id m) ∨ (ok = false ∧ ¬ Acyc L)
theorem madeG_ints (n : Nat) : madeG n = (intsG (List.replicate n 0)).toArray := by
  apply Array.toList_inj.1
  rw [madeG_list]
  simp [intsG]
theorem StM.made (w : World) (A : Option Addr) (n c : Nat) : StM w ((((w.alloc (.cells #[.slice A n c] 29)).alloc (.cells (madeG n) 3)).alloc (.cells #[.slice (some ⟨w.heap.size + 1, 0, none⟩) n n] 42)).alloc (.cells #[fromF w.heap.size (w.heap.size + 1 + 1) (w.heap.size + 1 + 1 + 1)] 62))
    (w.heap.size + 1) w.heap.size (w.heap.size + 1 + 1) (w.heap.size + 1 + 1 + 1) A n c (List.replicate n 0) [] := by
  have H1 := (Own.nil (Wider.refl w)).blk #[.slice A n c] 29
  have H2 := H1.blk (madeG n) 3
  have H3 := H2.blk #[.slice (some ⟨w.heap.size + 1, 0, none⟩) n n] 42
  have H4 := H3.blk #[fromF w.heap.size (w.heap.size + 1 + 1) (w.heap.size + 1 + 1 + 1)] 62
  have z1 : (w.alloc (.cells #[.slice A n c] 29)).heap.size = w.heap.size + 1 := by simp
  have z2 : ((w.alloc (.cells #[.slice A n c] 29)).alloc (.cells (madeG n) 3)).heap.size = w.heap.size + 1 + 1 := by simp
  have z3 : (((w.alloc (.cells #[.slice A n c] 29)).alloc (.cells (madeG n) 3)).alloc (.cells #[.slice (some ⟨w.heap.size + 1, 0, none⟩) n n] 42)).heap.size = w.heap.size + 1 + 1 + 1 := by simp
  rw [z1, z2, z3] at H4
  rw [madeG_ints] at H4 ⊢
  exact H4.swap.third.fourth.swap
set_option maxRecDepth 20000 in
set_option maxHeartbeats 8000000 in
theorem gmeasure_c {w : World} {A : Option Addr} {n c : Nat} {L : List NodV} (hL : NodesAt w A L) (hn : L.length = n) (hF : FewG L) (hS : SortedG L) :
    Calls Try.prog 35 #[.slice A n c] w fun e w' => ∃ (B : Option Addr) (m d : Nat) (S : List Int) (ok : Bool), e = .returned (.tuple #[.slice B m d, .bool ok]) ∧ Wider w w' ∧ IntsAt w' B S ∧ S.length = m ∧ MeasP L S ok := by
  have hn9 : n < 100000 := by rw [← hn]; exact hF.1
  have mk : ∀ W : World, (Instr.makeSlice 42 (.int .i64 (n : Int)) (.int .i64 (n : Int))).run Try.prog W = .ok (.slice (some ⟨W.heap.size, 0, none⟩) n n) (W.alloc (.cells (madeG n) 3)) := fun W => gmake n n (Nat.le_refl _) (by omega) W
  have HL := Lib.hid hL
  have HN := Lib.hid hn
  have HF := Lib.hid hF
  have HS := Lib.hid hS
  clear hL hn hF hS
  go_enter Try.func35, Try.ntmps35
  go_wp2
  have H := StM.made w A n c
  obtain ⟨Bl, hBl⟩ : ∃ b, w.heap.size = b := ⟨_, rfl⟩
  rw [hBl] at H ⊢
  generalize ((((w.alloc (.cells #[.slice A n c] 29)).alloc (.cells (madeG n) 3)).alloc (.cells #[.slice (some ⟨Bl + 1, 0, none⟩) n n] 42)).alloc (.cells #[fromF Bl (Bl + 1 + 1) (Bl + 1 + 1 + 1)] 62)) = W4 at *
  generalize Bl + 1 + 1 + 1 = Bf at *
  generalize Bl + 1 + 1 = Bs at *
  generalize Bl + 1 = Br at *
  clear mk hBl
  have hz0 : ∀ (i : Nat) (v : Int), (List.replicate n (0 : Int))[i]? = some v → v = 0 := fun i v h => by
    rw [List.getElem?_replicate] at h
    split at h
    · injection h with h; exact h.symm
    · cases h
  have HI0 : Hid (GoodS L (List.replicate n 0) ∧ (∀ k : Nat, (List.replicate n (0 : Int))[k]? ≠ some (-1)) ∧ ∀ (k : Nat) (x : NodV), k < 0 → L[k]? = some x → (∃ m, Dep L x.id m) ∧ SeenS L (List.replicate n 0) x.id) :=
    Lib.hid ⟨⟨by rw [List.length_replicate, HN.out], fun i x v _ hv => .inl (hz0 i v hv)⟩, fun k hk => by (have := hz0 k _ hk; omega), fun k x hk => absurd hk (Nat.not_lt_zero _)⟩
  clear hz0
  go_loopw [16] (fun a wr => ∃ (i : Nat) (S : List Int), i ≤ n ∧ a = .int .i64 (i : Int) ∧ StM w wr Br Bl Bs Bf A n c S [] ∧ Hid (GoodS L S ∧ (∀ k : Nat, S[k]? ≠ some (-1)) ∧ ∀ (k : Nat) (x : NodV), k < i → L[k]? = some x → (∃ m, Dep L x.id m) ∧ SeenS L S x.id)) (fun a _ => n - (intOf a).toNat)
  case atStart => exact ⟨0, _, Nat.zero_le _, rfl, H, HI0⟩
  case round =>
    clear H HI0
    obtain ⟨i, S, hi0, rfl, H, HI⟩ := hrel
    have q0 : (0 : Int) ≤ (i : Int) := by omega
    by_cases q : i < n
    · have q1 : (i : Int) < (n : Int) := by omega
      obtain ⟨a, x, rfl, hx, A2, n2, c2, K⟩ := HL.out.at (j := i) (by rw [HN.out]; exact q)
      obtain ⟨d0, d1, d2, d3, d4, d5, d6, d7, d8, -, -⟩ := K.on H.wider
      have H1 := H.quiet ((Wider.refl wr).alloc (.cells (nodC x A2 n2 c2) 28))
      have zf := gfrom_c HL.out HN.out HF.out (sorted_one HS.out) (noughts S + 1) S [] x.id _ (Nat.lt_succ_self _) H1 HI.out.1 (fun k y _ h => absurd h (HI.out.2.1 k))
      obtain ⟨-, -, l2⟩ := H1.look
      have HX := Lib.hid hx
      obtain ⟨id, size, lo, lw, lu, so, sw, arms, oth⟩ := x
      clear hx K
      go_upto_region 8 with (first
        | (go_at_call 38; ((with_reducible refine zf.mono ?_); rintro e w3 ⟨S3, m, ok, rfl, H4, hpost⟩; have HP := Lib.hid hpost; clear zf hpost H1 H l2 d0 d1 d2 d3 d4 d5 d6 d7 d8)))
      rcases HP.out with ⟨rfl, hd, hg, hk, hs⟩ | ⟨rfl, hno⟩
      · have HI3 : Hid (GoodS L S3 ∧ (∀ k : Nat, S3[k]? ≠ some (-1)) ∧ ∀ (k : Nat) (x : NodV), k < i + 1 → L[k]? = some x → (∃ m, Dep L x.id m) ∧ SeenS L S3 x.id) := Lib.hid ⟨hg, fun k h => HI.out.2.1 k (hk.up k h), fun k y hki hy => by
          by_cases e : k = i
          · subst e
            rw [HX.out] at hy
            cases hy
            exact ⟨⟨m, hd⟩, hs⟩
          · have := HI.out.2.2 k y (by omega) hy
            exact ⟨this.1, this.2.keep hk HI.out.1.len⟩⟩
        clear hd hg hk hs HI HP
        go_wp2
        go_roundw
        case measure => simp [intOf]; omega
        case rel => exact ⟨i + 1, S3, by omega, by go_num, H4, HI3⟩
      · have HA : Hid (¬ Acyc L) := Lib.hid fun h => by
          obtain ⟨m, hm⟩ := h _ (List.mem_of_getElem? HX.out)
          exact hno m hm
        clear hno
        go_wp2
        refine bodyPost_ret (results_tmp2 Try.results35 _ _) rfl ?_
        exact ⟨none, 0, 0, [], .inl ⟨rfl, H4.wider, ⟨fun _ => rfl, fun a e => by cases e⟩, rfl, .inr ⟨rfl, HA.out⟩⟩⟩
    · have e : i = n := by omega
      subst e
      have q1 : ¬ ((i : Int) < (i : Int)) := by omega
      obtain ⟨-, l1, -⟩ := H.look
      have HM : Hid (MeasP L S true) := Lib.hid (.inl ⟨rfl, fun x hx => by
        obtain ⟨k, hk⟩ := List.getElem?_of_mem hx
        exact (HI.out.2.2 k x (by rw [← HN.out]; exact (List.getElem?_eq_some_iff.1 hk).1) hk).1, HI.out.1.len, fun j x hj => by
        have hjl := (List.getElem?_eq_some_iff.1 hj).1
        obtain ⟨v, hv⟩ : ∃ v, S[j]? = some v := ⟨S[j]'(by rw [HI.out.1.len]; exact hjl), List.getElem?_eq_getElem _⟩
        rcases HI.out.1.each j x v hj hv with e | e | ⟨m, e, _, hm⟩
        · exact absurd (by rw [hv, e]) ((HI.out.2.2 j x (by rw [← HN.out]; exact hjl) hj).2 j x hj rfl)
        · exact absurd (by rw [hv, e]) (HI.out.2.1 j)
        · exact ⟨m, by rw [hv, e], hm⟩⟩)
      have HSL : Hid (S.length = i) := Lib.hid (HI.out.1.len.trans HN.out)
      have HIN : Hid (IntsAt wr (some ⟨Br, 0, none⟩) S) := Lib.hid ⟨fun e => (by cases e), fun a e j z hj => by
        cases e
        have := (H.at hj).1
        rw [Addr.add_lit, Nat.zero_add]
        exact this⟩
      go_wp2
      refine bodyPost_ret (results_tmp2 Try.results35 _ _) rfl ?_
      exact ⟨_, _, _, S, .inr ⟨rfl, H.wider, HIN.out, HSL.out, HM.out⟩⟩

/-- What check tells beside May's answer. -/
def LensP (L : List NodV) (S : List Int) : Prop := mayG L = 0 → ∀ (j : Nat) (x : NodV), L[j]? = some x → ∃ m : Nat, S[j]? = some (m : Int) ∧ Dep L x.id m
set_option maxRecDepth 20000 in
set_option maxHeartbeats 8000000 in
theorem gcheck_c {w : World} {A : Option Addr} {n c : Nat} {L : List NodV} (hL : NodesAt w A L) (hn : L.length = n) (hF : FewG L) {r : Int} (hr : mayG L = r) :
    Calls Try.prog 27 #[.slice A n c] w fun e w' => ∃ (B : Option Addr) (m d : Nat) (S : List Int), e = .returned (.tuple #[.slice B m d, .int .i64 r]) ∧ Wider w w' ∧ IntsAt w' B S ∧ S.length = m ∧ LensP L S := by
  have zf := gformed_c (c := c) hL hn hF
  have zc := fun (W : World) (g : Wider w W) => gcomplete_c (c := c) (hL.on g) hn hF
  have hn9 : n < 100000 := by rw [← hn]; exact hF.1
  have nil0 : ∀ W : World, IntsAt W none [] := fun W => ⟨fun _ => rfl, fun a e => by cases e⟩
  have HNI := Lib.hid nil0
  have HN := Lib.hid hn
  have HR := Lib.hid hr
  cases f : formsG 0 L with
  | false =>
    rw [f] at zf
    obtain rfl : 3 = r := by rw [← hr]; exact (mayG_form f).symm
    have HP : Hid (LensP L []) := Lib.hid fun h => by rw [hr] at h; cases h
    clear hL hn hF hr zc nil0 f
    go_enter Try.func27, Try.ntmps27
    go_wp2_with (first
      | (go_at_call 33; ((with_reducible refine zf.mono ?_); rintro e w1 ⟨rfl, G⟩; clear zf)))
    refine bodyPost_ret (results_tmp2 Try.results27 _ _) rfl ?_
    exact ⟨none, 0, 0, [], rfl, G, HNI.out _, rfl, HP.out⟩
  | true =>
    rw [f] at zf
    by_cases k : 32 < n
    · have k1 : (32 : Int) < (n : Int) := by omega
      obtain rfl : 12 = r := by rw [← hr]; exact (mayG_full f (by omega)).symm
      have HP : Hid (LensP L []) := Lib.hid fun h => by rw [hr] at h; cases h
      clear hL hn hF hr zc nil0 f k
      go_enter Try.func27, Try.ntmps27
      go_wp2_with (first
        | (go_at_call 33; ((with_reducible refine zf.mono ?_); rintro e w1 ⟨rfl, G⟩; clear zf)))
      refine bodyPost_ret (results_tmp2 Try.results27 _ _) rfl ?_
      exact ⟨none, 0, 0, [], rfl, G, HNI.out _, rfl, HP.out⟩
    · have k1 : ¬ (32 : Int) < (n : Int) := by omega
      cases t : toldG L with
      | false =>
        rw [t] at zc
        obtain rfl : 8 = r := by rw [← hr]; exact (mayG_ref f (by omega) t).symm
        have HP : Hid (LensP L []) := Lib.hid fun h => by rw [hr] at h; cases h
        clear hL hn hF hr nil0 f k t
        go_enter Try.func27, Try.ntmps27
        go_wp2_with (first
          | (go_at_call 33; ((with_reducible refine zf.mono ?_); rintro e w1 ⟨rfl, G⟩; clear zf))
          | (go_at_call 34; ((with_reducible refine (zc _ G).mono ?_); rintro e w1 ⟨rfl, g⟩; replace G := G.trans g; clear zc)))
        refine bodyPost_ret (results_tmp2 Try.results27 _ _) rfl ?_
        exact ⟨none, 0, 0, [], rfl, G, HNI.out _, rfl, HP.out⟩
      | true =>
        rw [t] at zc
        have zm := fun (W : World) (g : Wider w W) => gmeasure_c (c := c) (hL.on g) hn hF (formsG_sorted f)
        have HFT := Lib.hid (And.intro f t)
        clear hL hn hF hr nil0 f t
        go_enter Try.func27, Try.ntmps27
        go_upto_region 8 with (first
          | (go_at_call 33; ((with_reducible refine zf.mono ?_); rintro e w1 ⟨rfl, G⟩; clear zf))
          | (go_at_call 34; ((with_reducible refine (zc _ G).mono ?_); rintro e w1 ⟨rfl, g⟩; replace G := G.trans g; clear zc g))
          | (go_at_call 35; ((with_reducible refine (zm _ G).mono ?_); rintro e w1 ⟨B, m, d, S, ok, rfl, g, hi, hs, hm⟩; replace G := G.trans g; have HX := Lib.hid (And.intro hi (And.intro hs hm)); clear zm g hi hs hm)))
        obtain ⟨hi, hs, hm⟩ := HX.out
        rcases hm with ⟨rfl, ha, hl, hd⟩ | ⟨rfl, ha⟩
        · obtain rfl : 0 = r := by rw [← HR.out]; exact (Valid.may ⟨HFT.out.1, by have := HN.out; omega, HFT.out.2, ha⟩).symm
          have HP : Hid (LensP L S) := Lib.hid fun _ => hd
          clear hi hs ha hl hd
          go_wp2
          refine bodyPost_ret (results_tmp2 Try.results27 _ _) rfl ?_
          exact ⟨_, _, _, S, rfl, G, HX.out.1, HX.out.2.1, HP.out⟩
        · obtain rfl : 10 = r := by rw [← HR.out]; exact (mayG_ring HFT.out.1 (by have := HN.out; omega) HFT.out.2 ha).symm
          have HP : Hid (LensP L []) := Lib.hid fun h => by rw [HR.out] at h; cases h
          clear hi hs ha
          go_wp2
          refine bodyPost_ret (results_tmp2 Try.results27 _ _) rfl ?_
          exact ⟨none, 0, 0, [], rfl, G, HNI.out _, rfl, HP.out⟩
set_option maxRecDepth 20000 in
set_option maxHeartbeats 4000000 in
/-- May. -/
theorem gmay_c {w : World} {A : Option Addr} {n c : Nat} {L : List NodV} (hL : NodesAt w A L) (hn : L.length = n) (hF : FewG L) {r : Int} (hr : mayG L = r) :
    Calls Try.prog 11 #[.slice A n c] w fun e w' => e = .returned (.int .i64 r) ∧ Wider w w' := by
  have z := gcheck_c (c := c) hL hn hF hr
  clear hL hn hF hr
  go_enter Try.func11, Try.ntmps11
  go_wp2_with (first
    | (go_at_call 27; ((with_reducible refine z.mono ?_); rintro e w1 ⟨B, m, d, S, rfl, G, hi, hs, hp⟩; clear z hi hs hp)))
  go_ret
  exact ⟨rfl, G⟩
set_option maxRecDepth 20000 in
set_option maxHeartbeats 4000000 in
/-- Longest. -/
theorem glongest_c {w : World} {A : Option Addr} {n c : Nat} {L : List NodV} (hL : NodesAt w A L) (hn : L.length = n) (hF : FewG L) {m : Nat} (hm : LongG L m) :
    Calls Try.prog 12 #[.slice A n c] w fun e w' => e = .returned (.int .i64 (m : Int)) ∧ Wider w w' := by
  have z := gcheck_c (c := c) hL hn hF rfl
  have zp := fun (W : World) (g : Wider w W) => gplace_c (c := c) (hL.on g) hn (by have := hF.1; omega) 1
  have HM := Lib.hid hm
  obtain ⟨r, hr⟩ : ∃ r, mayG L = r := ⟨_, rfl⟩
  rw [hr] at z
  have HR := Lib.hid hr
  have HN := Lib.hid hn
  clear hL hn hF hm hr
  go_enter Try.func12, Try.ntmps12
  go_upto_region 3 with (first
    | (go_at_call 27; ((with_reducible refine z.mono ?_); rintro e w1 ⟨B, k, d, S, rfl, G, hi, hs, hp⟩; have HX := Lib.hid (And.intro hi (And.intro hs hp)); clear z hi hs hp))
    | (go_at_call 28; ((with_reducible refine (zp _ G).mono ?_); rintro e w2 ⟨p, rfl, g, hp⟩; have HPL := Lib.hid hp; have HG := Lib.hid g; replace G := G.trans g; clear zp hp g)))
  by_cases r0 : r = 0
  · subst r0
    have hd : Dep L 1 m := by
      rcases HM.out with ⟨_, h⟩ | ⟨h, _⟩
      · exact h
      · exact absurd HR.out h
    rcases HPL.out with ⟨rfl, hno⟩ | ⟨j, x, rfl, hj, hx⟩
    · obtain rfl : 0 = m := (Dep.none hno).unique hd
      clear hd hno
      go_wp2
      go_ret
      exact ⟨rfl, G⟩
    · have hxi := (nodeG_mem hx).2
      obtain ⟨v, hv, hdv⟩ := HX.out.2.2 HR.out j x hj
      rw [hxi] at hdv
      obtain rfl : v = m := hdv.unique hd
      obtain ⟨a, z, rfl, hz, x0⟩ := HX.out.1.at (j := j) (List.getElem?_eq_some_iff.1 hv).1
      rw [hv] at hz
      cases hz
      have x0 := wkeep HG.out x0
      have q0 : (0 : Int) ≤ (j : Int) := by omega
      have q2 : ¬ (j : Int) < 0 := by omega
      have q1 : (j : Int) < (k : Int) := by have := (List.getElem?_eq_some_iff.1 hv).1; have := HX.out.2.1; omega
      clear hd hx hj hxi hdv hv
      go_wp2
      go_ret
      exact ⟨rfl, G⟩
  · have r1 : (r != 0) = true := by simpa using r0
    obtain rfl : 0 = m := by
      rcases HM.out with ⟨h, _⟩ | ⟨_, h⟩
      · exact absurd (HR.out.symm.trans h) r0
      · exact h.symm
    clear r0
    go_wp2
    go_ret
    exact ⟨rfl, G⟩

end Go.Proofs.Ytilebacnjagneaa
