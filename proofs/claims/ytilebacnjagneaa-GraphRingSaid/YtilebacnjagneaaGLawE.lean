/- Package graph: what its statements call: way: by a walk of its code. -/
import Derived.Test.YtilebacnjagneaaGLawC
namespace Go.Proofs.Ytilebacnjagneaa
set_option linter.unusedVariables false
open Go.ChangeShapes Go.WideShapes Go.ChangeAt Go.RowKit Go.Joins

/-- Where a way may end. -/
def EndsAt (L : List NodV) (a : Int) : Prop := a = 0 ∨ a = 65535 ∨ a = 1 ∨ ∃ x, nodeG L a = some x
/-- How far a way has come: nodes seen, and where it stands. -/
structure WayG (L : List NodV) (d : Nat) (S : List Int) (a : Int) : Prop where
  short : ∃ e, Dep L a e ∧ S.length + e ≤ d
  runs : ∀ s ∈ S, RunsTo L s a
  ends : EndsAt L a
theorem WayG.start {L : List NodV} {d : Nat} (h : Dep L 1 d) : WayG L d [] 1 := ⟨⟨d, h, by simp⟩, fun s h => (by cases h), .inr (.inr (.inl rfl))⟩
theorem WayG.fresh {L : List NodV} {d : Nat} {S : List Int} {a : Int} (h : WayG L d S a) : ∀ s ∈ S, s ≠ a := fun s hs e => by
  obtain ⟨k, hk, _⟩ := h.short
  have r := h.runs s hs
  rw [e] at r
  exact r.ring k hk
theorem WayG.step {L : List NodV} {d : Nat} {S : List Int} {a b : Int} {x : NodV} (h : WayG L d S a) (hv : Valid L) (hx : nodeG L a = some x) (hb : b ∈ x.goes) : WayG L d (S ++ [a]) b := by
  obtain ⟨e, he, hl⟩ := h.short
  obtain ⟨k, hk, hd⟩ := he.next hx hb
  refine ⟨⟨k, hd, by rw [List.length_append]; simp only [List.length_cons, List.length_nil]; omega⟩, fun s hs => ?_, ?_⟩
  · rcases List.mem_append.1 hs with hs | hs
    · exact .more (h.runs s hs) hx hb
    · simp only [List.mem_cons, List.not_mem_nil, or_false] at hs
      subst hs
      exact .one hx hb
  · rcases toldG_iff.1 hv.told x (nodeG_mem hx).1 b hb with q | q | q
    · exact .inl q
    · exact .inr (.inl q)
    · exact .inr (.inr (.inr q))
theorem WayG.len {L : List NodV} {d : Nat} {S : List Int} {a : Int} (h : WayG L d S a) : S.length ≤ d := by
  obtain ⟨e, _, hl⟩ := h.short
  omega
set_option maxRecDepth 20000 in
set_option maxHeartbeats 8000000 in
theorem gway_c {w : World} {A : Option Addr} {n c : Nat} {L : List NodV} (hL : NodesAt w A L) (hn : L.length = n) (hF : FewG L) (hv : Valid L) {P : Option Addr} {pn pc : Nat} {ps : List Int} (hp : NumsK w .u8 P ps) (hpl : ps.length = pn) (hpr : ∀ z ∈ ps, 0 ≤ z ∧ z < 256) {d : Nat} (hd : Dep L 1 d) :
    Calls Try.prog 16 #[.slice A n c, .slice P pn pc] w fun e w' => ∃ (m : Nat) (a : Int), e = .returned (.tuple #[.int .i64 (m : Int), .int .i64 a]) ∧ Wider w w' ∧ m ≤ d ∧ (a = 0 ∨ a = 65535 ∨ a = 1) := by
  have hn9 : n < 100000 := by rw [← hn]; exact hF.1
  have zf := fun (W : World) (g : Wider w W) (id : Int) => gfindO_c (c := c) (hL.on g) hn hF id
  have hdn : d ≤ n := by rw [← hn]; exact hd.le
  have HV := Lib.hid hv
  have HP := Lib.hid hp
  have HPL := Lib.hid hpl
  have HPR := Lib.hid hpr
  have HW0 := Lib.hid (WayG.start hd)
  have H0 : Own w w [rowT 3 1 (.slice none 0 0) 0 (intsG [])] := (Own.nil (Wider.refl w)).row (Wider.refl _) (World.ownsRow_nil _ _ 3 1)
  clear hL hn hF hv hp hpl hpr hd
  go_enter Try.func16, Try.ntmps16
  go_wp2
  go_loopw [6, 7, 8] (fun s a b wr => ∃ (k : Nat) (at_ : Int) (S : List Int) (B : Option Addr) (c' : Nat), s = .slice B k c' ∧ a = .int .i64 at_ ∧ b = .int .i64 (k : Int) ∧ S.length = k ∧ Own w wr [rowT 3 1 (.slice B k c') k (intsG S)] ∧ Hid (WayG L d S at_)) (fun _ _ b _ => n + 1 - (intOf b).toNat)
  case atStart => exact ⟨0, 1, [], none, 0, rfl, rfl, rfl, rfl, H0, HW0⟩
  case round =>
    clear H0 HW0
    obtain ⟨k, at_, S, B, c', rfl, rfl, rfl, hS, H, HW⟩ := hrel
    have hkd : k ≤ d := by rw [← hS]; exact HW.out.len
    have q0 : (0 : Int) ≤ (k : Int) := by omega
    have q1 : (k : Int) ≤ (n : Int) := by omega
    have HS := Lib.hid hS
    have z := zf _ H.wider at_
    clear hS
    go_upto_region 7 with (first
      | (go_at_call 17; ((with_reducible refine z.mono ?_); rintro e w1 ⟨B2, m2, c2, ok, x, rfl, K, hm, hok, hc⟩; have H1 := H.add K; have HC := Lib.hid (And.intro hm (And.intro hok hc)); clear z K hm hok hc H)))
    rcases HC.out.2.2 with ⟨rfl, hx⟩ | ⟨rfl, hno, -⟩
    · have H2 := H1.blk (nodC x B2 m2 c2) 28
      have hm2 : m2 < 100000 := by rw [← HC.out.1]; exact HC.out.2.1.few
      have HX := Lib.hid hx
      have HM := Lib.hid HC.out.1
      obtain ⟨l, hl⟩ : ∃ l, x.goes = l := ⟨_, rfl⟩
      have HGL : Hid (l.length = m2 + 1) := Lib.hid (by rw [← hl, goes_length, HC.out.1])
      have HGS : Hid (∀ b ∈ l, WayG L d (S ++ [at_]) b) := Lib.hid fun b hb => HW.out.step HV.out hx (by rw [hl]; exact hb)
      have zg := fun (W : World) (h : ArmsAt W B2 x.arms) => ggoes_c (c := c2) x h HM.out hm2
      rw [hl] at zg
      obtain ⟨id0, size, lo, lw, lu, so, sw, arms, oth⟩ := x
      have zg : ∀ W, ArmsAt W B2 arms → Calls Try.prog 19 #[.agg #[.int .i64 id0, .int .i64 size, .int .i64 lo, .int .i64 lw, .int .i64 lu, .int .i64 so, .int .i64 sw, .slice B2 m2 c2, .int .i64 oth]] W fun e w' => ∃ B c', e = .returned (.slice B (m2 + 1) c') ∧ Wider W w' ∧ IntsAt w' B l := zg
      have hm : arms.length = m2 := HM.out
      have HM2 := Lib.hid hm
      have HFR := Lib.hid HW.out.fresh
      clear hx hl hm H1 HC
      go_wp2
      obtain ⟨Bx, hBx⟩ : ∃ b, w1.heap.size = b := ⟨_, rfl⟩
      rw [hBx] at H2
      try rw [hBx]
      obtain ⟨W, hW⟩ : ∃ W, w1.alloc (.cells #[.int .i64 id0, .int .i64 size, .int .i64 lo, .int .i64 lw, .int .i64 lu, .int .i64 so, .int .i64 sw, .slice B2 m2 c2, .int .i64 oth] 28) = W := ⟨_, rfl⟩
      rw [show w1.alloc (.cells (nodC ⟨id0, size, lo, lw, lu, so, sw, arms, oth⟩ B2 m2 c2) 28) = W from hW] at H2
      try rw [hW]
      clear hW hBx
      have HIN := IntsAt.row (Own.holds H2 _ (.tail _ (.tail _ (.head _)))) HS.out
      have HI2 := Lib.hid HIN
      clear HIN
      go_loopw [11] (fun a wr => ∃ j : Nat, j ≤ k ∧ a = .int .i64 (j : Int) ∧ Wider W wr) (fun a _ => k - (intOf a).toNat)
      case atStart => exact ⟨0, Nat.zero_le _, rfl, Wider.refl _⟩
      case round =>
        obtain ⟨j, hj0, rfl, G⟩ := hrel
        have z0 : (0 : Int) ≤ (j : Int) := by omega
        by_cases z : j < k
        · have z1 : (j : Int) < (k : Int) := by omega
          obtain ⟨a, y, rfl, hy, x0⟩ := HI2.out.at (j := j) (by rw [HS.out]; exact z)
          have x0 := wkeep G x0
          have y1 : (y == at_) = false := by rw [beq_eq_false_iff_ne]; exact HFR.out y (List.mem_of_getElem? hy)
          clear hy
          go_wp2
          go_roundw
          case measure => simp [intOf]; omega
          case rel => exact ⟨j + 1, by omega, by go_num, G⟩
        · have e : j = k := by omega
          subst e
          have z1 : ¬ ((j : Int) < (j : Int)) := by omega
          have H3 := (Own.quiet H2 G).third
          have H4 := Lib.hid (H3.quiet ((Wider.refl wr).alloc (.cells #[.int .i64 at_] 3)))
          have N1 : Hid ((wr.alloc (.cells #[.int .i64 at_] 3)).cell? ⟨wr.heap.size, 0, none⟩ = some (.int .i64 at_)) := Lib.hid (by simp [go_sem])
          have S1 : Hid (j < 1000000) := Lib.hid (by omega)
          clear H3
          go_upto_region 17 with (first
            | (at_builtin; go_loud (refine wpList_snoc_int rfl (.tmp 43) (.tmp 45) rfl rfl H4.out rfl N1.out S1.out ?_; intro B3 c3 w5 H5; obtain ⟨c0, c1, c2, c3', c4, c5, c6, c7, c8⟩ := NodeB.of (x := ⟨id0, size, lo, lw, lu, so, sw, arms, oth⟩) H5.second; have har := ArmsAt.row (Own.holds H5 _ (.tail _ (.tail _ (.head _)))) HM2.out))
            | (go_at_call 19; ((with_reducible refine (zg _ har).mono ?_); rintro e w6 ⟨B7, c7', rfl, g, hB⟩; have H6 := H5.quiet g; have HB := Lib.hid hB; clear zg g hB H5 har c0 c1 c2 c3' c4 c5 c6 c7 c8)))
          have H7 := ((Own.swap H6).drop.swap).drop
          clear H6
          by_cases zp : j < pn
          · have zp1 : (j : Int) < (pn : Int) := by omega
            obtain ⟨pa, v, rfl, hv, xp⟩ := HP.out.at (j := j) (by rw [HPL.out]; exact zp)
            have xp := wkeep H7.wider xp
            obtain ⟨v0, v1⟩ := HPR.out v (List.mem_of_getElem? hv)
            obtain ⟨u, rfl⟩ : ∃ u : Nat, v = (u : Int) := ⟨v.toNat, by omega⟩
            have wv : IntKind.i64.wrap (u : Int) = (u : Int) := by simp [IntKind.wrap, IntKind.bits, IntKind.signed]; omega
            obtain ⟨t, ht⟩ : ∃ t, u % (m2 + 1) = t := ⟨_, rfl⟩
            have htl : t < m2 + 1 := by rw [← ht]; exact Nat.mod_lt _ (by omega)
            have e1 : (u : Int) % ((m2 : Int) + 1) = (t : Int) := by rw [← ht]; simp
            have e2 : Int.tmod (u : Int) ((m2 : Int) + 1) = (t : Int) := by rw [Int.tmod_eq_emod_of_nonneg (by omega), e1]
            obtain ⟨ga, y, rfl, hy, xg⟩ := HB.out.at (j := t) (by rw [HGL.out]; exact htl)
            have t0 : (0 : Int) ≤ (t : Int) := by omega
            have t1 : (t : Int) < (m2 : Int) + 1 := by omega
            have HSN : Hid (WayG L d (S ++ [at_]) y) := Lib.hid (HGS.out y (List.mem_of_getElem? hy))
            clear hy hv ht
            go_wp2
            go_roundw
            case measure => simp [intOf]; omega
            case rel => exact ⟨j + 1, y, S ++ [at_], B3, c3, rfl, rfl, by go_num, by rw [List.length_append, HS.out]; rfl, H7, HSN⟩
          · have zp1 : ¬ (j : Int) < (pn : Int) := by omega
            have e1 : (0 : Int) % ((m2 : Int) + 1) = 0 := by simp
            have e2 : Int.tmod (0 : Int) ((m2 : Int) + 1) = 0 := by simp
            obtain ⟨ga, y, rfl, hy, xg⟩ := HB.out.at (j := 0) (by rw [HGL.out]; omega)
            have t1 : (0 : Int) < (m2 : Int) + 1 := by omega
            have HSN : Hid (WayG L d (S ++ [at_]) y) := Lib.hid (HGS.out y (List.mem_of_getElem? hy))
            have xg : w6.cell? ga = some (.int .i64 y) := by
              have q : ga.add 0 = ga := by unfold Addr.add; simp
              rw [q] at xg; exact xg
            clear hy
            go_wp2
            go_roundw
            case measure => simp [intOf]; omega
            case rel => exact ⟨j + 1, y, S ++ [at_], B3, c3, rfl, rfl, by go_num, by rw [List.length_append, HS.out]; rfl, H7, HSN⟩
    · obtain ⟨hends, hsh⟩ : (at_ = 0 ∨ at_ = 65535 ∨ at_ = 1) ∧ k ≤ d := ⟨by
        rcases HW.out.ends with e | e | e | ⟨y, e⟩
        · exact .inl e
        · exact .inr (.inl e)
        · exact .inr (.inr e)
        · rw [hno] at e; exact absurd e (by simp), hkd⟩
      have HE := Lib.hid (And.intro hsh hends)
      have G := H1.wider.alloc (.cells (nodC x B2 m2 c2) 28)
      clear hno hends hsh H1
      go_wp2
      refine bodyPost_ret (results_tmp2 Try.results16 _ _) rfl ?_
      exact ⟨k, at_, rfl, G, HE.out.1, HE.out.2⟩

end Go.Proofs.Ytilebacnjagneaa
