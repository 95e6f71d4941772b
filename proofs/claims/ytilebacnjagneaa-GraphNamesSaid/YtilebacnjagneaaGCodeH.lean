/- Package graph: measure: the closure that calls itself, by a walk of its code; and check, May, Longest. -/
import Derived.Test.YtilebacnjagneaaGCodeG
import Derived.Lib.MinMax
namespace Go.Proofs.Ytilebacnjagneaa
set_option linter.unusedVariables false
open Go.ChangeShapes Go.WideShapes Go.ChangeAt Go.RowKit Go.Joins

/-! ### What is computed already -/
def noughts (S : List Int) : Nat := (S.filter fun v => decide (v = 0)).length
structure GoodS (L : List NodV) (S : List Int) : Prop where
  len : S.length = L.length
  each : ∀ (i : Nat) (x : NodV) (v : Int), L[i]? = some x → S[i]? = some v → v = 0 ∨ v = -1 ∨ ∃ m : Nat, v = (m : Int) ∧ 0 < m ∧ Dep L x.id m
def UpS (L : List NodV) (S : List Int) (id : Int) : Prop := ∀ (i : Nat) (x : NodV), L[i]? = some x → S[i]? = some (-1) → RunsTo L x.id id
structure KeepS (S S' : List Int) : Prop where
  len : S'.length = S.length
  old : ∀ (i : Nat) (v : Int), S[i]? = some v → v ≠ 0 → S'[i]? = some v
  up : ∀ i : Nat, S'[i]? = some (-1) → S[i]? = some (-1)
theorem KeepS.refl (S : List Int) : KeepS S S := ⟨rfl, fun i v h _ => h, fun i h => h⟩
theorem KeepS.trans {a b c : List Int} (h : KeepS a b) (k : KeepS b c) : KeepS a c := ⟨k.len.trans h.len, fun i v hv q => k.old i v (h.old i v hv q) q, fun i q => h.up i (k.up i q)⟩
theorem noughts_set : ∀ (S : List Int) (j : Nat) (v : Int), S[j]? = some 0 → v ≠ 0 → noughts (S.set j v) < noughts S
  | [], j, v, h, _ => by simp at h
  | u :: S, 0, v, h, hv => by
    obtain rfl : u = 0 := by simpa using h
    unfold noughts
    rw [List.set_cons_zero, List.filter_cons, List.filter_cons, if_neg (by simpa using hv), if_pos (by simp)]
    simp
  | u :: S, j + 1, v, h, hv => by
    have ih := noughts_set S j v (by simpa using h) hv
    unfold noughts at ih ⊢
    rw [List.set_cons_succ, List.filter_cons, List.filter_cons]
    split
    · simpa using ih
    · exact ih
theorem noughts_keep : ∀ (S S' : List Int), S'.length = S.length → (∀ (i : Nat) (v : Int), S[i]? = some v → v ≠ 0 → S'[i]? = some v) → noughts S' ≤ noughts S
  | [], S', h, _ => by
    obtain rfl : S' = [] := List.eq_nil_of_length_eq_zero h
    exact Nat.le_refl _
  | u :: S, [], h, _ => by simp at h
  | u :: S, u' :: S', h, k => by
    have ih := noughts_keep S S' (by simpa using h) (fun i v hv q => by
      have := k (i + 1) v (by simpa using hv) q
      simpa using this)
    unfold noughts at ih ⊢
    rw [List.filter_cons, List.filter_cons]
    by_cases c : u = 0
    · rw [if_pos (show decide (u = 0) = true by simpa using c)]
      split
      · simp only [List.length_cons]; omega
      · simp only [List.length_cons]; omega
    · have e : u' = u := by simpa using k 0 u rfl c
      rw [e]
      simpa [c] using ih
theorem set_at {S : List Int} {j : Nat} {v : Int} (h : j < S.length) : (S.set j v)[j]? = some v := by rw [List.getElem?_set_self h]
theorem set_ne {S : List Int} {j i : Nat} {v : Int} (h : j ≠ i) : (S.set j v)[i]? = S[i]? := List.getElem?_set_ne h
theorem intsG_set (S : List Int) (j : Nat) (v : Int) : (intsG S).toArray.setIfInBounds j (.int .i64 v) = (intsG (S.set j v)).toArray := by
  unfold intsG
  rw [List.map_set]
  simp
theorem intsG_at {S : List Int} {j : Nat} {v : Int} (h : S[j]? = some v) : (intsG S).toArray[j]? = some (.int .i64 v) := by
  unfold intsG
  rw [List.getElem?_toArray, List.getElem?_map, h]
  rfl

theorem results_tmp2 {P : Program} {fn : Func} {p q : Tmp} (h : fn.results = #[.tmp p, .tmp q]) (tmps : Array Value) (w : World) : (results fn tmps).run P w = .ok (.tuple #[tmps.getD p undef, tmps.getD q undef]) w := by
  simp [results, h]
/-! ### The closure -/
abbrev fromF (Bl Bs Bf : Nat) : Value := .func (.func 38) #[] #[.pointer (some ⟨Bl, 0, none⟩), .pointer (some ⟨Bs, 0, none⟩), .pointer (some ⟨Bf, 0, none⟩)]
def StM (V w : World) (Br Bl Bs Bf : Nat) (A : Option Addr) (n c : Nat) (S : List Int) (R : List Thing) : Prop :=
  Own V w (blkT Br (intsG S).toArray 3 :: blkT Bl #[.slice A n c] 29 :: blkT Bs #[.slice (some ⟨Br, 0, none⟩) n n] 42 :: blkT Bf #[fromF Bl Bs Bf] 62 :: R)
variable {V w : World} {Br Bl Bs Bf n c : Nat} {A : Option Addr} {S : List Int} {R : List Thing}
theorem StM.quiet {w' : World} (h : StM V w Br Bl Bs Bf A n c S R) (g : Wider w w') : StM V w' Br Bl Bs Bf A n c S R := Own.quiet h g
theorem StM.wider (h : StM V w Br Bl Bs Bf A n c S R) : Wider V w := Own.wider h
theorem StM.look (h : StM V w Br Bl Bs Bf A n c S R) : w.cell? ⟨Bl, 0, none⟩ = some (.slice A n c) ∧ w.cell? ⟨Bs, 0, none⟩ = some (.slice (some ⟨Br, 0, none⟩) n n) ∧ w.cell? ⟨Bf, 0, none⟩ = some (fromF Bl Bs Bf) :=
  ⟨blk_cell (Own.drop h).head 0 rfl, blk_cell (Own.drop h).drop.head 0 rfl, blk_cell (Own.drop h).drop.drop.head 0 rfl⟩
theorem StM.at (h : StM V w Br Bl Bs Bf A n c S R) {j : Nat} {v : Int} (hj : S[j]? = some v) : w.cell? ⟨Br, j, none⟩ = some (.int .i64 v) ∧ w.frozen? ⟨Br, j, none⟩ = false :=
  ⟨blk_cell (Own.head h) j (intsG_at hj), blk_free (Own.head h) j⟩
theorem StM.set (h : StM V w Br Bl Bs Bf A n c S R) (j : Nat) (v : Int) : StM V (w.setCell ⟨Br, j, none⟩ (.int .i64 v)) Br Bl Bs Bf A n c (S.set j v) R := by
  have := Own.store h j (.int .i64 v)
  rw [intsG_set] at this
  exact this
theorem StM.more {w' : World} {r : Thing} (h : StM V w Br Bl Bs Bf A n c S R) (k : Own w w' [r]) : StM V w' Br Bl Bs Bf A n c S (r :: R) := by
  have q : Own V w' (r :: (blkT Br (intsG S).toArray 3 :: blkT Bl #[.slice A n c] 29 :: blkT Bs #[.slice (some ⟨Br, 0, none⟩) n n] 42 :: blkT Bf #[fromF Bl Bs Bf] 62 :: R)) :=
    Own.make h k.wider k.head (k.stable r (.head _)) (k.new r (.head _))
  exact q.perm (List.perm_middle (l₁ := [_, _, _, _])).symm
theorem StM.turn {r : Thing} (h : StM V w Br Bl Bs Bf A n c S (r :: R)) : r.2 w := Own.holds h r (by simp)
theorem StM.less {r : Thing} (h : StM V w Br Bl Bs Bf A n c S (r :: R)) : StM V w Br Bl Bs Bf A n c S R :=
  (Own.perm h (List.perm_middle (l₁ := [_, _, _, _]))).drop
/-- What is computed of an ID. -/
def SeenS (L : List NodV) (S : List Int) (id : Int) : Prop := ∀ (j : Nat) (x : NodV), L[j]? = some x → x.id = id → S[j]? ≠ some 0
theorem SeenS.keep {L : List NodV} {S S' : List Int} {id : Int} (h : SeenS L S id) (k : KeepS S S') (hl : S.length = L.length) : SeenS L S' id := fun j x hj e q => by
  have hjl := (List.getElem?_eq_some_iff.1 hj).1
  obtain ⟨v, hv⟩ : ∃ v, S[j]? = some v := ⟨S[j]'(by omega), List.getElem?_eq_getElem _⟩
  by_cases z : v = 0
  · exact h j x hj e (by rw [hv, z])
  · rw [k.old j v hv z] at q
    injection q with q
    exact z q
/-- What the closure answers. -/
def FromPost (V : World) (Br Bl Bs Bf : Nat) (A : Option Addr) (n c : Nat) (L : List NodV) (S : List Int) (R : List Thing) (id : Int) (e : Ending) (w' : World) : Prop :=
  ∃ (S' : List Int) (m : Nat) (ok : Bool), e = .returned (.tuple #[.int .i64 (m : Int), .bool ok]) ∧ StM V w' Br Bl Bs Bf A n c S' R ∧ ((ok = true ∧ Dep L id m ∧ GoodS L S' ∧ KeepS S S' ∧ SeenS L S' id) ∨ (ok = false ∧ ∀ m, ¬ Dep L id m))

set_option maxRecDepth 20000 in
set_option maxHeartbeats 8000000 in
theorem gfrom_c {V : World} {Br Bl Bs Bf n c : Nat} {A : Option Addr} {L : List NodV} (hL : NodesAt V A L) (hn : L.length = n) (hF : FewG L) (hD : ∀ (i j : Nat) (x y : NodV), L[i]? = some x → L[j]? = some y → x.id = y.id → i = j) : ∀ (z : Nat) (S : List Int) (R : List Thing) (id : Int) (w : World), noughts S < z → StM V w Br Bl Bs Bf A n c S R → GoodS L S → UpS L S id →
    Calls Try.prog 38 #[.int .i64 id, .pointer (some ⟨Bl, 0, none⟩), .pointer (some ⟨Bs, 0, none⟩), .pointer (some ⟨Bf, 0, none⟩)] w fun e w' => FromPost V Br Bl Bs Bf A n c L S R id e w' := by
  intro z
  induction z with
  | zero => intro S R id w h; exact absurd h (Nat.not_lt_zero _)
  | succ z ih =>
  intro S R id w hz H hG hU
  have zp := gplace_c (c := c) (hL.on H.wider) hn (by have := hF.1; omega) id
  obtain ⟨l0, l1, l2⟩ := H.look
  have HL := Lib.hid hL
  have HN := Lib.hid hn
  have HF := Lib.hid hF
  have HG := Lib.hid hG
  have HU := Lib.hid hU
  have HZ := Lib.hid hz
  have IH := Lib.hid ih
  have HDI := Lib.hid hD
  clear hL hn hF hG hU hz ih hD
  go_enter Try.func38, Try.ntmps38
  go_upto_region 2 with (first
    | (go_at_call 28; ((with_reducible refine zp.mono ?_); rintro e w1 ⟨p, rfl, g, hp⟩; have H1 := StM.quiet H g; clear zp)))
  obtain ⟨l0, l1, l2⟩ := H1.look
  rcases hp with ⟨rfl, hno⟩ | ⟨j, x, rfl, hj, hx⟩
  · have HD := Lib.hid (Dep.none hno)
    have HSE : Hid (SeenS L S id) := Lib.hid fun j x hj e => absurd e (nodeG_none.1 hno x (List.mem_of_getElem? hj))
    clear hno H g
    go_wp2
    refine bodyPost_ret (results_tmp2 Try.results38 _ _) rfl ?_
    exact ⟨S, 0, true, rfl, H1, .inl ⟨rfl, HD.out, HG.out, KeepS.refl S, HSE.out⟩⟩
  · have hjl := (List.getElem?_eq_some_iff.1 hj).1
    obtain ⟨v, hv⟩ : ∃ v, S[j]? = some v := ⟨S[j]'(by rw [HG.out.len]; exact hjl), List.getElem?_eq_getElem _⟩
    obtain ⟨r0, r1⟩ := H1.at hv
    have q0 : (0 : Int) ≤ (j : Int) := by omega
    have q1 : (j : Int) < (n : Int) := by have := HN.out; omega
    have q2 : ¬ (j : Int) < 0 := by omega
    have HJ := Lib.hid hj
    have HX := Lib.hid hx
    have HV := Lib.hid hv
    have hxi := (nodeG_mem hx).2
    rcases HG.out.each j x v hj hv with e | e | ⟨m, e, hm0, hm⟩
    · subst e
      have hjs : j < S.length := by rw [HG.out.len]; exact hjl
      have H2 := H1.set j (-1)
      have hG1 : GoodS L (S.set j (-1)) := ⟨by rw [List.length_set]; exact HG.out.len, fun i y u hy hu => by
        by_cases q : j = i
        · subst q
          rw [set_at hjs] at hu
          cases hu
          exact .inr (.inl rfl)
        · rw [set_ne q] at hu
          exact HG.out.each i y u hy hu⟩
      have hz1 : noughts (S.set j (-1)) < z := by
        have := noughts_set S j (-1) hv (by decide)
        have := HZ.out
        omega
      have hU1 : ∀ y, y ∈ x.goes → UpS L (S.set j (-1)) y := fun y hy i u hu hs => by
        by_cases q : j = i
        · subst q
          rw [hj] at hu
          cases hu
          rw [hxi]
          exact .one hx hy
        · rw [set_ne q] at hs
          exact .more (HU.out i u hu hs) hx hy
      obtain ⟨a0, x', rfl, hj', A2, n2, c2, K⟩ := HL.out.at (j := j) hjl
      rw [hj] at hj'
      cases hj'
      have ok := HF.out.2 x (List.mem_of_getElem? hj)
      obtain ⟨d0, d1, d2, d3, d4, d5, d6, d7, d8, har, hlen⟩ := K.on H2.wider
      have hn2 : n2 < 100000 := by rw [← hlen]; exact ok.few
      have zs := gsuccO_c (c := c2) x har hlen hn2
      have hgl := goes_length x
      rw [hlen] at hgl
      have hDn : ∀ y ∈ x.goes, (∀ m, ¬ Dep L y m) → ∀ m, ¬ Dep L id m := fun y hy hno m hm => by
        obtain ⟨k, _, hk⟩ := hm.next hx hy
        exact hno k hk
      have hDs : ∀ m, MaxDep L x.goes m → Dep L id (m + 1) := fun m hm => Dep.some hx hm
      obtain ⟨l, hl⟩ : ∃ l, x.goes = l := ⟨_, rfl⟩
      rw [hl] at zs hgl hU1 hDn hDs
      have HW := Lib.hid (And.intro hG1 (And.intro hz1 (And.intro hU1 (And.intro hDn (And.intro hDs hgl)))))
      have HXI := Lib.hid hxi
      have HJS := Lib.hid hjs
      obtain ⟨i0, size, lo, lw, lu, so, sw, arms, oth⟩ := x
      obtain ⟨l0', l1', l2'⟩ := H2.look
      clear hG1 hz1 hU1 hDn hDs hgl hl hx hv hj K har hlen ok H g hxi hjs
      go_upto_region 11 with (first
        | (go_at_call 32; ((with_reducible refine zs.mono ?_); rintro e w2 ⟨B, c', rfl, hB⟩; have H3 := StM.more H2 hB; clear zs hB)))
      clear d0 d1 d2 d3 d4 d5 d6 d7 d8 l0 l1 l2 l0' l1' l2' r0 r1 H1 H2
      go_loopw [8, 44] (fun o a wr => ∃ k : Nat, k ≤ n2 + 1 ∧ a = .int .i64 (k : Int) ∧ ∃ (b : Nat) (S2 : List Int), o = .int .i64 (b : Int) ∧ StM V wr Br Bl Bs Bf (some a0) n c S2 (rowT 3 1 (.slice B (n2 + 1) c') (n2 + 1) (intsG l) :: R) ∧ Hid (GoodS L S2 ∧ KeepS (S.set j (-1)) S2 ∧ MaxDep L (l.take k) b)) (fun _ a _ => n2 + 1 - (intOf a).toNat)
      case atStart => exact ⟨0, Nat.zero_le _, rfl, 0, _, rfl, H3, Lib.hid ⟨HW.out.1, KeepS.refl _, MaxDep.nil L⟩⟩
      case round =>
        clear H3
        obtain ⟨k, hk0, rfl, b, S2, rfl, H3, HS⟩ := hrel
        obtain ⟨l0, l1, l2⟩ := H3.look
        have z0 : (0 : Int) ≤ (k : Int) := by omega
        by_cases q : k < n2 + 1
        · have z1 : (k : Int) < (n2 : Int) + 1 := by omega
          obtain ⟨b0, y, rfl, hy, x0⟩ := (IntsAt.row (StM.turn H3) HW.out.2.2.2.2.2).at (j := k) (by rw [HW.out.2.2.2.2.2]; exact q)
          have HY := Lib.hid hy
          have zq := IH.out S2 _ y wr (by
            have h1 := noughts_keep _ _ HS.out.2.1.len HS.out.2.1.old
            have := HW.out.2.1
            omega) H3 HS.out.1 (fun i u hu hs => HW.out.2.2.1 y (List.mem_of_getElem? hy) i u hu (HS.out.2.1.up i hs))
          clear hy
          clear l0 l1
          go_upto_region 14 with (first
            | (go_at_call 38; ((with_reducible refine zq.mono ?_); rintro e w3 ⟨S3, m, ok, rfl, H4, hpost⟩; have HP := Lib.hid hpost; clear zq l2 H3 hpost x0)))
          rcases HP.out with ⟨rfl, hd, hg, hk, -⟩ | ⟨rfl, hno⟩
          · have HS3 : Hid (GoodS L S3 ∧ KeepS (S.set j (-1)) S3 ∧ MaxDep L (l.take (k + 1)) (max b m)) := Lib.hid ⟨hg, HS.out.2.1.trans hk, by rw [take_next l k _ HY.out]; exact HS.out.2.2.snoc hd⟩
            clear hd hg hk HS
            go_wp2
            go_roundw
            case measure => simp [intOf]; omega
            case rel => exact ⟨k + 1, by omega, by go_num, max b m, S3, by simp; omega, H4, HS3⟩
          · have HD : Hid (∀ m, ¬ Dep L id m) := Lib.hid (HW.out.2.2.2.1 y (List.mem_of_getElem? HY.out) hno)
            clear hno
            go_wp2
            refine bodyPost_ret (results_tmp2 Try.results38 _ _) rfl ?_
            exact ⟨S3, 0, false, rfl, H4.less, .inr ⟨rfl, HD.out⟩⟩
        · have e : k = n2 + 1 := by omega
          subst e
          have z1 : ¬ (((n2 + 1 : Nat) : Int) < (n2 : Int) + 1) := by omega
          have e2 : l.take (n2 + 1) = l := List.take_of_length_le (by rw [HW.out.2.2.2.2.2]; exact Nat.le_refl _)
          obtain ⟨hg, hk, hm⟩ := HS.out
          rw [e2] at hm
          have hd := HW.out.2.2.2.2.1 _ hm
          have hb : b + 1 ≤ n := by have := hd.le; have := HN.out; omega
          have hn9 : n < 100000 := by have := HF.out.1; have := HN.out; omega
          have v2 : S2[j]? = some (-1) := hk.old j (-1) (set_at HJS.out) (by decide)
          obtain ⟨r0, r1⟩ := H3.at v2
          have w1 : IntKind.i64.wrap (1 + (b : Int)) = ((b + 1 : Nat) : Int) := by simp [IntKind.wrap, IntKind.bits, IntKind.signed]; omega
          have w2 : IntKind.i64.wrap (1 + (b : Int)) = 1 + (b : Int) := by simp [IntKind.wrap, IntKind.bits, IntKind.signed]; omega
          have H5 := H3.set j (1 + (b : Int))
          obtain ⟨m0, m1, m2⟩ := H5.look
          have hjs2 : j < S2.length := (List.getElem?_eq_some_iff.1 v2).1
          have v5 : (S2.set j (1 + (b : Int)))[j]? = some (1 + (b : Int)) := set_at hjs2
          obtain ⟨r2, r3⟩ := H5.at v5
          have HSE : Hid (SeenS L (S2.set j (1 + (b : Int))) id) := Lib.hid fun i y hi e q => by
            obtain rfl := HDI.out j i _ y HJ.out hi (HXI.out.trans e.symm)
            rw [v5] at q
            injection q with q
            omega
          have HS5 : Hid (Dep L id (b + 1) ∧ GoodS L (S2.set j (1 + (b : Int))) ∧ KeepS S (S2.set j (1 + (b : Int)))) := Lib.hid ⟨hd, ⟨by rw [List.length_set]; exact hg.len, fun i y u hy hu => by
              by_cases q : j = i
              · subst q
                rw [set_at hjs2] at hu
                cases hu
                rw [HJ.out] at hy
                cases hy
                exact .inr (.inr ⟨b + 1, by omega, by omega, by show Dep L i0 _; rw [HXI.out]; exact hd⟩)
              · rw [set_ne q] at hu
                exact hg.each i y u hy hu⟩, ⟨by rw [List.length_set, hk.len, List.length_set], fun i v hv hv0 => by
              have q : j ≠ i := fun q => by
                subst q
                rw [HV.out] at hv
                injection hv with hv
                exact hv0 hv.symm
              rw [set_ne q]
              exact hk.old i v (by rw [set_ne q]; exact hv) hv0, fun i hi => by
              by_cases q : j = i
              · subst q
                rw [set_at hjs2] at hi
                injection hi with hi
                omega
              · rw [set_ne q] at hi
                have := hk.up i hi
                rwa [set_ne q] at this⟩⟩
          clear hg hk hm hd v2 v5 hjs2 e2 w1 HS
          go_wp2
          refine bodyPost_ret (results_tmp2 Try.results38 _ _) rfl ?_
          exact ⟨_, b + 1, true, by rw [show ((b + 1 : Nat) : Int) = 1 + (b : Int) by omega]; rfl, H5.less, .inl ⟨rfl, HS5.out.1, HS5.out.2.1, HS5.out.2.2, HSE.out⟩⟩
    · subst e
      have HD : Hid (∀ m, ¬ Dep L id m) := Lib.hid fun m hm => by
        have r := HU.out j x hj hv
        rw [hxi] at r
        exact r.ring m hm
      clear hx hv hj H g hxi
      go_wp2
      refine bodyPost_ret (results_tmp2 Try.results38 _ _) rfl ?_
      exact ⟨S, 0, false, rfl, H1, .inr ⟨rfl, HD.out⟩⟩
    · subst e
      rw [hxi] at hm
      have HD := Lib.hid hm
      have HSE : Hid (SeenS L S id) := Lib.hid fun i y hi e q => by
        obtain rfl := HDI.out j i x y hj hi (hxi.trans e.symm)
        rw [hv] at q
        injection q with q
        omega
      have m1 : ((m : Int) == -1) = false := by rw [beq_eq_false_iff_ne]; omega
      have m2 : (0 : Int) < (m : Int) := by omega
      clear hx hv hj H g hxi hm
      go_wp2
      refine bodyPost_ret (results_tmp2 Try.results38 _ _) rfl ?_
      exact ⟨S, m, true, rfl, H1, .inl ⟨rfl, HD.out, HG.out, KeepS.refl S, HSE.out⟩⟩

end Go.Proofs.Ytilebacnjagneaa
