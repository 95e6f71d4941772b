/- Package graph: Find and Next: by walks of its code. -/
import Derived.Test.YtilebacnjagneaaGCodeE
import Derived.Test.YtilebacnjagneaaURow
namespace Go.Proofs.Ytilebacnjagneaa
set_option linter.unusedVariables false
open Go.ChangeShapes Go.WideShapes Go.ChangeAt Go.RowKit Go.Joins

theorem nodC_one (x : NodV) (A : Option Addr) (n c : Nat) : (nodC x A n c).all (·.oneCell') = true := by simp [Value.oneCell']
theorem NodeB.of {w : World} {B : Nat} {t : TypeId} {x : NodV} {A : Option Addr} {n c : Nat} (h : w.heap[B]? = some (.cells (nodC x A n c) t (0, 0))) : NodeB w B x A n c :=
  ⟨blk_cell h 0 rfl, blk_cell h 1 rfl, blk_cell h 2 rfl, blk_cell h 3 rfl, blk_cell h 4 rfl, blk_cell h 5 rfl, blk_cell h 6 rfl, blk_cell h 7 rfl, blk_cell h 8 rfl⟩
theorem zeroN_ok : zeroN.Ok := ⟨fun p hp => (by cases hp), by decide⟩
theorem results_row_two {P : Program} {fn : Func} {p q : Tmp} {ty : TypeId} (h : fn.results = #[.cell p ty, .tmp q]) (tmps : Array Value) (w : World) (g : Nat) (t : TypeId) (cs : Array Value) (fr : Nat × Nat) (d : TypeDesc) (v : Value)
    (hp : tmps.getD p undef = .pointer (some ⟨g, 0, none⟩)) (hq : tmps.getD q undef = v) (hg : w.heap[g]? = some (.cells cs t fr))
    (hu : P.underlying ty = some d) (hd : (match d with | .struct _ | .array _ _ => true | _ => false) = true) (hi : (P.info? ty).map (·.size) = some cs.size) :
    (results fn tmps).run P w = .ok (.tuple #[.agg cs, v]) w := by
  have hp' : tmps[p]?.getD undef = .pointer (some ⟨g, 0, none⟩) := by simpa using hp
  have hq' : tmps[q]?.getD undef = v := by simpa using hq
  simp [results, h, hp', hq', asAddr, run_loadVar_row w g t ty cs fr d hg hu hd hi]
theorem Own.add {V W w : World} {L : List Thing} {r : Thing} (H : Own V W L) (k : Own W w [r]) : Own V w (r :: L) := Own.make H k.wider k.head (k.stable r (.head _)) (k.new r (.head _))
set_option maxRecDepth 20000 in
set_option maxHeartbeats 4000000 in
/-- Find: the node that is found, its arms in new memory. -/
theorem gfindO_c {w : World} {A : Option Addr} {n c : Nat} {L : List NodV} (hL : NodesAt w A L) (hn : L.length = n) (hF : FewG L) (id : Int) :
    Calls Try.prog 17 #[.slice A n c, .int .i64 id] w fun e w' => ∃ (B : Option Addr) (m d : Nat) (b : Bool) (x : NodV), e = .returned (.tuple #[nodA x B m d, .bool b]) ∧ Own w w' [rowT 26 2 (.slice B m d) m (cellsArm x.arms)] ∧ x.arms.length = m ∧ x.Ok ∧ ((b = true ∧ nodeG L id = some x) ∨ (b = false ∧ nodeG L id = none ∧ x = zeroN)) := by
  have zp := fun (W : World) (g : Wider w W) => gplace_c (c := c) (hL.on g) hn (by have := hF.1; omega) id
  have HL := Lib.hid hL
  have HN := Lib.hid hn
  have HF := Lib.hid hF
  clear hL hn hF
  have G := (Wider.refl w).alloc (.cells #[.int .i64 0, .int .i64 0, .int .i64 0, .int .i64 0, .int .i64 0, .int .i64 0, .int .i64 0, .slice none 0 0, .int .i64 0] 28)
  have H := (Own.nil (Wider.refl w)).blk (nodC zeroN none 0 0) 28
  go_enter Try.func17, Try.ntmps17
  go_upto_region 2 with (first
    | (go_at_call 28; ((with_reducible refine (zp _ G).mono ?_); rintro e w1 ⟨r, rfl, g, hr⟩; replace G := G.trans g; replace H := H.quiet g; clear zp)))
  rcases hr with ⟨rfl, hno⟩ | ⟨j, x, rfl, hj, hx⟩
  · have HNO := Lib.hid hno
    have H2 := H.setRowU (nodC zeroN none 0 0)
    have k := H2.head
    have hh := H.head
    clear hno
    go_wp2_with (first
      | (with_reducible refine wpList_store_row rfl 28 (.tmp 4) (.tmp 13) rfl w.heap.size (nodC zeroN none 0 0) rfl rfl 28 (nodC zeroN none 0 0) hh (by kernel_rfl) rfl (nodC_one _ _ _ _) ?_))
    refine bodyPost_ret (results_row_two Try.results17 _ _ w.heap.size 28 (nodC zeroN none 0 0) (0, 0) _ _ rfl rfl k Try.underlying28 rfl (by kernel_rfl)) rfl ?_
    exact ⟨none, 0, 0, .inl ⟨zeroN, rfl, (Own.nil H2.wider).row (Wider.refl _) (World.ownsRow_nil _ _ 26 2), rfl, zeroN_ok, HNO.out, rfl⟩⟩
  · have hl := (List.getElem?_eq_some_iff.1 hj).1
    obtain ⟨a, x', rfl, hj', A2, n2, c2, K⟩ := HL.out.at (j := j) hl
    rw [hj] at hj'
    cases hj'
    have ok := HF.out.2 x (List.mem_of_getElem? hj)
    have HX := Lib.hid hx
    have HO := Lib.hid ok
    obtain ⟨d0, d1, d2, d3, d4, d5, d6, d7, d8, har, hlen⟩ := K.on G
    have q0 : (0 : Int) ≤ (j : Int) := by omega
    have q1 : (j : Int) < (n : Int) := by have := HN.out; omega
    have q2 : ¬ (j : Int) < 0 := by omega
    have hlt : n2 < 100000 := by rw [← hlen]; exact ok.few
    have H2 := H.blk (nodC x A2 n2 c2) 28
    have G2 := (Wider.refl w1).alloc (.cells (nodC x A2 n2 c2) 28)
    have zc := gcloneA_c (c := c2) H2 (xs := cellsArm x.arms) (by rw [cellsArm_length, hlen]) hlt (fun e => by rw [← hlen, har.none_ e]; rfl) (har.on G2).lay (cellsArm_one _)
    have hh := H2.head
    have e7 := blk_cell hh 7 (v := .slice A2 n2 c2) rfl
    have HL2 := Lib.hid hlen
    obtain ⟨i0, size, lo, lw, lu, so, sw, arms, oth⟩ := x
    clear hj hx ok K har hlen H hl hh g
    go_upto_region 6 with (first
      | (go_at_call 29; ((with_reducible refine zc.mono ?_); rintro e w2 ⟨B3, c3, rfl, H5⟩; have H6 := H5.swap; have f7 := blk_cell H6.head 7 (v := .slice A2 n2 c2) rfl; have g7 := blk_free H6.head 7; have H7 := H6.store 7 (.slice B3 n2 c3); clear zc e7)))
    obtain ⟨y, hy⟩ : ∃ y : NodV, (⟨i0, size, lo, lw, lu, so, sw, arms, oth⟩ : NodV) = y := ⟨_, rfl⟩
    have hcs : ((nodC ⟨i0, size, lo, lw, lu, so, sw, arms, oth⟩ A2 n2 c2).setIfInBounds 7 (.slice B3 n2 c3)) = nodC y B3 n2 c3 := by rw [← hy]; simp
    rw [hcs] at H7
    generalize (w2.setCell { block := w1.heap.size, off := 7 } (Value.slice B3 n2 c3)) = W at *
    have H8 := H7.third
    have h7 := H7.head
    have h8 := H8.head
    have H9 := H8.setRowU (nodC y B3 n2 c3)
    have k := H9.head
    clear H5 H6 d0 d1 d2 d3 d4 d5 d6 d7 d8 f7 g7 H2 G2
    go_wp2_with (first
      | (with_reducible refine wpList_load_row rfl 28 (.tmp 7) rfl w1.heap.size rfl 28 (nodC y B3 n2 c3) (0, 0) _ h7 Try.underlying28 rfl (by kernel_rfl) ?_)
      | (with_reducible refine wpList_store_row rfl 28 (.tmp 4) (.tmp 22) rfl w.heap.size (nodC y B3 n2 c3) rfl rfl 28 (nodC zeroN none 0 0) h8 (by kernel_rfl) rfl (nodC_one _ _ _ _) ?_))
    refine bodyPost_ret (results_row_two Try.results17 _ _ w.heap.size 28 (nodC y B3 n2 c3) (0, 0) _ _ rfl rfl k Try.underlying28 rfl (by kernel_rfl)) rfl ?_
    have HR := H9.drop.drop
    rw [hy] at HX HO
    have ea : y.arms = arms := by rw [← hy]
    exact ⟨B3, n2, c3, .inr ⟨y, rfl, by rw [ea]; exact HR, by rw [ea]; exact HL2.out, HO.out, HX.out⟩⟩

theorem gfind_c {w : World} {A : Option Addr} {n c : Nat} {L : List NodV} (hL : NodesAt w A L) (hn : L.length = n) (hF : FewG L) (id : Int) :
    Calls Try.prog 17 #[.slice A n c, .int .i64 id] w fun e w' => ∃ (B : Option Addr) (m d : Nat) (b : Bool) (x : NodV), e = .returned (.tuple #[nodA x B m d, .bool b]) ∧ Wider w w' ∧ ArmsAt w' B x.arms ∧ x.arms.length = m ∧ x.Ok ∧ ((b = true ∧ nodeG L id = some x) ∨ (b = false ∧ nodeG L id = none ∧ x = zeroN)) := by
  refine (gfindO_c (c := c) hL hn hF id).mono ?_
  rintro e w' ⟨B, m, d, b, x, rfl, H, hm, r⟩
  exact ⟨B, m, d, b, x, rfl, H.wider, ArmsAt.row H.head hm, hm, r⟩
theorem pickA_next {v oth : Int} {l : List (Int × Int)} {i : Nat} {u z : Int} (h : l[i]? = some (u, z)) : pickA v oth (l.drop i) = if u = v then z else pickA v oth (l.drop (i + 1)) := by
  have hl := (List.getElem?_eq_some_iff.1 h).1
  have e : l.drop i = (u, z) :: l.drop (i + 1) := by
    rw [List.drop_eq_getElem_cons hl]
    have := (List.getElem?_eq_some_iff.1 h).2
    rw [this]
  rw [e]
  rfl
set_option maxRecDepth 20000 in
set_option maxHeartbeats 4000000 in
/-- Next. -/
theorem gnextOf_c {w : World} {A : Option Addr} {n c : Nat} {L : List NodV} (hL : NodesAt w A L) (hn : L.length = n) (hF : FewG L) (id v : Int) {r : Int} (hr : nextG L id v = r) :
    Calls Try.prog 13 #[.slice A n c, .int .i64 id, .int .u32 v] w fun e w' => e = .returned (.int .i64 r) ∧ Wider w w' := by
  have zp := fun (W : World) (g : Wider w W) => gplace_c (c := c) (hL.on g) hn (by have := hF.1; omega) id
  have HL := Lib.hid hL
  have HN := Lib.hid hn
  have HR := Lib.hid hr
  have HF := Lib.hid hF
  clear hL hn hr hF
  go_enter Try.func13, Try.ntmps13
  go_upto_region 2 with (first
    | (go_at_call 28; ((with_reducible refine (zp _ (Wider.refl w)).mono ?_); rintro e w1 ⟨p, rfl, G, hp⟩; clear zp)))
  rcases hp with ⟨rfl, hno⟩ | ⟨j, x, rfl, hj, hx⟩
  · have e : r = 0 := by rw [← HR.out]; unfold nextG; rw [hno]
    subst e
    clear hno
    go_wp2
    go_ret
    exact ⟨rfl, G⟩
  · have hl2 := (List.getElem?_eq_some_iff.1 hj).1
    obtain ⟨a, x', rfl, hj', A2, n2, c2, K⟩ := HL.out.at (j := j) hl2
    rw [hj] at hj'
    cases hj'
    obtain ⟨-, -, -, -, -, -, -, d7, d8, har, hlen⟩ := K.on G
    have q0 : (0 : Int) ≤ (j : Int) := by omega
    have q1 : (j : Int) < (n : Int) := by have := HN.out; omega
    have q2 : ¬ (j : Int) < 0 := by omega
    have HA := Lib.hid har
    have HX := Lib.hid hlen
    have hb : n2 < 100000 := by rw [← hlen]; exact (HF.out.2 x (List.mem_of_getElem? hj)).few
    have er : pickA v x.oth x.arms = r := by rw [← HR.out]; unfold nextG; rw [hx]
    obtain ⟨i0, size, lo, lw, lu, so, sw, arms, oth⟩ := x
    have er : pickA v oth arms = r := er
    have HE := Lib.hid er
    clear hj hx K har hlen hl2 er
    go_wp2
    go_loopw [21] (fun a wr => ∃ i : Nat, i ≤ n2 ∧ a = .int .i64 (i : Int) ∧ Wider w1 wr ∧ Hid (pickA v oth (arms.drop i) = r)) (fun a _ => n2 - (intOf a).toNat)
    case atStart => exact ⟨0, Nat.zero_le _, rfl, Wider.refl _, HE⟩
    case round =>
      obtain ⟨i, hi0, rfl, G2, HI⟩ := hrel
      have z0 : (0 : Int) ≤ (i : Int) := by omega
      have d7 := wkeep G2 d7
      have d8 := wkeep G2 d8
      by_cases q : i < n2
      · have z1 : (i : Int) < (n2 : Int) := by omega
        obtain ⟨b, u, z, rfl, hz, x0, x1⟩ := HA.out.at (j := i) (by have := HX.out; show i < arms.length; omega)
        have x0 := wkeep G2 x0
        have x1 := wkeep G2 x1
        have st := pickA_next (v := v) (oth := oth) hz
        rw [HI.out] at st
        have G3 := G2.alloc (.cells #[.int .u32 u, .int .i64 z] 26)
        clear hz
        by_cases s : u = v
        · subst s
          rw [if_pos rfl] at st
          subst st
          have s1 : (u == u) = true := beq_self_eq_true _
          go_wp2
          go_ret
          exact ⟨rfl, G.trans G3⟩
        · rw [if_neg s] at st
          have s1 : (u == v) = false := by simpa using s
          have HS := Lib.hid st.symm
          clear st s
          go_wp2
          go_roundw
          case measure => simp [intOf]; omega
          case rel => exact ⟨i + 1, by omega, by go_num, G3, HS⟩
      · have e : i = n2 := by omega
        subst e
        have z1 : ¬ ((i : Int) < (i : Int)) := by omega
        have e2 : arms.drop i = [] := List.drop_eq_nil_of_le (by have := HX.out; show arms.length ≤ i; omega)
        have e3 := HI.out
        rw [e2] at e3
        have e3 : oth = r := e3
        subst e3
        clear e2
        go_wp2
        go_ret
        exact ⟨rfl, G.trans G2⟩

end Go.Proofs.Ytilebacnjagneaa
