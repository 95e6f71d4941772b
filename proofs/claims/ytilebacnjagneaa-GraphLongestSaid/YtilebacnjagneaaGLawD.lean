/- Package graph: what its statements call: from: by a walk of its code. -/
import Derived.Test.YtilebacnjagneaaGLawC
import Derived.Deep.CutRange
import Derived.Deep.CutBlock
namespace Go.Proofs.Ytilebacnjagneaa
set_option linter.unusedVariables false
open Go.ChangeShapes Go.WideShapes Go.ChangeAt Go.RowKit Go.Joins

theorem cellsArm_set : ∀ (l : List (Int × Int)) (j : Nat) (v z y : Int), l[j]? = some (v, z) → (cellsArm l).set (j * 2 + 1) (.int .i64 y) = cellsArm (l.set j (v, y))
  | [], j, v, z, y, h => by simp at h
  | p :: l, 0, v, z, y, h => by
    obtain rfl : p = (v, z) := by simpa using h
    rfl
  | p :: l, j + 1, v, z, y, h => by
    have ih := cellsArm_set l j v z y (by simpa using h)
    show (Value.int .u32 p.1 :: Value.int .i64 p.2 :: cellsArm l).set ((j + 1) * 2 + 1) _ = Value.int .u32 p.1 :: Value.int .i64 p.2 :: cellsArm (l.set j (v, y))
    rw [show (j + 1) * 2 + 1 = j * 2 + 1 + 1 + 1 by omega, List.set_cons_succ, List.set_cons_succ, ih]
theorem Own.setNext {V w : World} {R : List Thing} {A : Option Addr} {n c j : Nat} {l : List (Int × Int)} {v z : Int} (H : Own V w (rowT 26 2 (.slice A n c) n (cellsArm l) :: R)) (hj : l[j]? = some (v, z)) :
    ∃ g, A = some ⟨g, 0, none⟩ ∧ w.cell? ⟨g, j * 2, none⟩ = some (.int .u32 v) ∧ w.cell? ⟨g, j * 2 + 1, none⟩ = some (.int .i64 z) ∧ w.frozen? ⟨g, j * 2 + 1, none⟩ = false ∧ g < w.heap.size ∧
      ∀ y : Int, Own V (w.setCell ⟨g, j * 2 + 1, none⟩ (.int .i64 y)) (rowT 26 2 (.slice A n c) n (cellsArm (l.set j (v, y))) :: R) := by
  have h := H.head
  have hl : (cellsArm l).length = n * 2 := h.1
  have hjl := (List.getElem?_eq_some_iff.1 hj).1
  rw [cellsArm_length] at hl
  rcases id h.2 with ⟨q, q2⟩ | ⟨g, cap, cur, q, hb, hg, r⟩
  · omega
  · simp only [Value.slice.injEq] at q
    obtain ⟨rfl, _, rfl⟩ := q
    have k := cellsArm_at l j v z hj
    refine ⟨g, rfl, ?_, ?_, ?_, (Array.getElem?_eq_some_iff.1 hg).1, fun y => ?_⟩
    · rw [World.ownsRow.cellAt h (j * 2) (by omega)]; exact k.1
    · rw [World.ownsRow.cellAt h (j * 2 + 1) (by omega)]; exact k.2
    · simp [World.frozen?, hg]
    · rw [← cellsArm_set l j v z y hj]
      refine H.turn (s := rowT 26 2 (.slice (some ⟨g, 0, none⟩) n c) n ((cellsArm l).set (j * 2 + 1) (.int .i64 y))) (setCell_but w ⟨g, j * 2 + 1, none⟩ (.int .i64 y)) (ownsRow_store H.head (by rw [cellsArm_length]; omega) rfl) (rowT_stable _ _ _ _ _) fun i hi => ⟨.inl hi, ?_⟩
      have := (H.new _ (.head _) i hi).2
      simpa [World.setCell] using this
/-- The first k arms have turned. -/
def turnA (o : Int) (k : Nat) (l : List (Int × Int)) : List (Int × Int) := (l.take k).map (fun p => (p.1, turnG o p.2)) ++ l.drop k
theorem turnA_zero (o : Int) (l : List (Int × Int)) : turnA o 0 l = l := rfl
theorem turnA_full (o : Int) (l : List (Int × Int)) (k : Nat) (h : l.length ≤ k) : turnA o k l = l.map fun p => (p.1, turnG o p.2) := by
  unfold turnA
  rw [List.take_of_length_le h, List.drop_eq_nil_of_le h, List.append_nil]
theorem turnA_length (o : Int) (k : Nat) (l : List (Int × Int)) : (turnA o k l).length = l.length := by
  unfold turnA
  rw [List.length_append, List.length_map, ← List.length_append, List.take_append_drop]
theorem turnA_at {o : Int} {k : Nat} {l : List (Int × Int)} {v z : Int} (h : l[k]? = some (v, z)) : (turnA o k l)[k]? = some (v, z) ∧ (turnA o k l).set k (v, turnG o z) = turnA o (k + 1) l := by
  have hl := (List.getElem?_eq_some_iff.1 h).1
  have e : l.drop k = (v, z) :: l.drop (k + 1) := by
    rw [List.drop_eq_getElem_cons hl, (List.getElem?_eq_some_iff.1 h).2]
  have hk : ((l.take k).map (fun p => (p.1, turnG o p.2))).length = k := by rw [List.length_map, List.length_take, Nat.min_eq_left (by omega)]
  unfold turnA
  constructor
  · rw [List.getElem?_append_right (by omega), hk, Nat.sub_self, e]
    rfl
  · rw [List.set_append_right _ _ (by omega), hk, Nat.sub_self, e, List.set_cons_zero, take_next l k _ h, List.map_append, List.append_assoc]
    rfl
theorem step_load_row {P : Program} {w : World} {ops : Array Oper} {o : Oper} {a : Act} {K : Act → World → Prop} {Q : Exit → Act → World → Prop} {E : Prop} (hgd : o.guard = none) (ty : TypeId) (x : Operand) (ho : o.op = .load ty x)
    (g : Nat) (hx : a.eval x = .pointer (some ⟨g, 0, none⟩)) (t : TypeId) (cs : Array Value) (fr : Nat × Nat) (d : TypeDesc) (hg : w.heap[g]? = some (.cells cs t fr))
    (hu : P.underlying ty = some d) (hd : (match d with | .struct _ | .array _ _ => true | _ => false) = true) (hi : (P.info? ty).map (·.size) = some cs.size)
    (h : K (a.put o.dst (.agg cs)) w) : if Region.wanted o (yielded ops a.tmps) = true then Oper.wp P o a w K Q else E := by
  have hw : Region.wanted o (yielded ops a.tmps) = true := by simp [Region.wanted, hgd]
  rw [if_pos hw]
  exact wp_load_row ty x ho g hx t cs fr d hg hu hd hi h
theorem node_lies (w : World) (e : NodM) (t : TypeId) : ∀ a, some (⟨w.heap.size, 0, none⟩ : Addr) = some a → ∀ (i : Nat) u, (cellsNd [e])[i]? = some u → (w.alloc (.cells e.cells t)).cell? (a.add i) = some u := by
  have H := ((Own.nil (Wider.refl w)).blk e.cells t).head
  exact blk_lay H (by unfold cellsNd; simp)
theorem layA {w : World} {A : Option Addr} {l : List NodM} {c j : Nat} (h : ∀ a, A = some a → ∀ (i : Nat) u, (cellsNd l)[i]? = some u → w.cell? (a.add i) = some u) (hj : j ≤ l.length) (hc : l.length ≤ c) (h0 : A = none → l = []) {A8 : Option Addr} (e : (if c = j then A else A.map fun a => a.add (j * 9)) = A8) :
    (∀ W, Wider w W → ∀ b, A8 = some b → ∀ (i : Nat) u, (cellsNd (l.drop j))[i]? = some u → W.cell? (b.add i) = some u) ∧ (A8 = none → l.length - j = 0) := by
  subst e
  refine ⟨fun W g b e i u hu => ?_, fun e => ?_⟩
  · have hl := (List.getElem?_eq_some_iff.1 hu).1
    rw [cellsNd_length, List.length_drop] at hl
    rw [if_neg (by omega)] at e
    cases A with
    | none => cases e
    | some a =>
      obtain rfl : a.add (j * 9) = b := by simpa using e
      by_cases z : j = 0
      · subst z
        have q : a.add (0 * 9) = a := by unfold Addr.add; simp
        rw [q]
        exact wkeep g (h a rfl i u (by simpa using hu))
      · exact wkeep g (lay_drop h j hj (by omega) a rfl i u hu)
  · cases A with
    | none => rw [h0 rfl]; simp
    | some a =>
      split at e
      · cases e
      · cases e
theorem perm_next {o : Int} {L out : List NodV} {i j : Nat} {x : NodV} (hs : SortedG L) (hp : PermG o (L.take i) out) (hx : L[i]? = some x) (h1 : ∀ (m : Nat) (y : NodV), m < j → out[m]? = some y → y.id < (renG o x).id) (h2 : ∀ y, out[j]? = some y → ¬ y.id < (renG o x).id) : PermG o (L.take (i + 1)) (out.take j ++ renG o x :: out.drop j) := by
  rw [take_next L i x hx]
  refine hp.step (fun y hy e => ?_) h1 h2
  obtain ⟨m, hm⟩ := List.getElem?_of_mem hy
  have hl := (List.getElem?_eq_some_iff.1 hm).1
  rw [List.length_take] at hl
  rw [List.getElem?_take_of_lt (by omega)] at hm
  have := sorted_one hs m i y x hm hx e
  omega
theorem few_next {o : Int} {L out : List NodV} {i : Nat} (hF : FewG L) (hp : PermG o (L.take i) out) : FewG out := by
  refine ⟨by rw [hp.len, List.length_take]; have := hF.1; omega, fun y hy => ?_⟩
  obtain ⟨x, hx, rfl⟩ := (hp.mem y).1 hy
  have ok := hF.2 x (List.mem_of_mem_take hx)
  refine ⟨fun p hp => ?_, ?_⟩
  · obtain ⟨q, hq, rfl⟩ := List.mem_map.1 hp
    exact ok.arms q hq
  · show (x.arms.map _).length < 100000
    rw [List.length_map]; exact ok.few
theorem gleaf_key9 {α β γ δ ε ζ η θ ι : Type} {C P : α → β → γ → δ → ε → ζ → η → θ → ι → Prop} {G : Prop} (k : ∀ w b c d e f g h i, C w b c d e f g h i → P w b c d e f g h i) (g : Hid (∀ w b c d e f g h i, C w b c d e f g h i → P w b c d e f g h i) → G) : G := g (Lib.hid k)
theorem size_set (w : World) (a : Addr) (v : Value) : (w.setCell a v).heap.size = w.heap.size := by simp [World.setCell]
set_option maxRecDepth 20000 in
set_option maxHeartbeats 16000000 in
theorem gfrom18_c {w : World} {A : Option Addr} {n c : Nat} {L : List NodV} (hL : NodesAt w A L) (hn : L.length = n) (hF : FewG L) (hv : Valid L) (id : Int) {d : Nat} (hd : Dep L id d) :
    Calls Try.prog 18 #[.slice A n c, .int .i64 id] w fun e w' => e = .returned (.int .i64 (d : Int)) ∧ Wider w w' := by
  have zf := gfind_c (c := c) hL hn hF id
  have hn9 : n < 100000 := by rw [← hn]; exact hF.1
  have HL := Lib.hid hL
  have HN := Lib.hid hn
  have HF := Lib.hid hF
  have HV := Lib.hid hv
  have HD := Lib.hid hd
  clear hL hn hF hv hd
  go_enter Try.func18, Try.ntmps18
  go_upto_region 2 with (first
    | (go_at_call 17; ((with_reducible refine zf.mono ?_); rintro e w1 ⟨Bf, mf, df, bf, xf, rfl, G, -, -, -, hcase⟩; have HC := Lib.hid hcase; clear zf hcase)))
  rcases HC.out with ⟨rfl, hx⟩ | ⟨rfl, hno, hz⟩
  · have hio : 1 ≤ id ∧ id ≤ 65534 := by
      have hm := nodeG_mem hx
      have := formG_id (formsG_mem HV.out.form xf hm.1).1
      rw [hm.2] at this
      exact this
    have HIO := Lib.hid hio
    have G2 := G.alloc (.cells (nodC xf Bf mf df) 28)
    clear hx hio HC
    go_wp2
    have P0 : Hid (PermG id (L.take 0) [] ∧ FewG []) := Lib.hid ⟨PermG.nil id, nil_few⟩
    go_loopw [7, 8] (fun o a wr => ∃ i : Nat, i ≤ n ∧ a = .int .i64 (i : Int) ∧ ∃ B c' out, o = .slice B i c' ∧ i ≤ c' ∧ (B = none → c' = 0) ∧ Wider w wr ∧ NodesAt wr B out ∧ Hid (PermG id (L.take i) out ∧ FewG out)) (fun _ a _ => n - (intOf a).toNat)
    case atStart => exact ⟨0, Nat.zero_le _, rfl, none, 0, [], rfl, Nat.le_refl _, fun _ => rfl, G2, NodesAt.nil _, P0⟩
    case round =>
      clear G2 P0
      obtain ⟨i, hi0, rfl, B, c', out, rfl, hic, hnc, H, hO, HP⟩ := hrel
      have HNC := Lib.hid hnc
      clear hnc
      have q0 : (0 : Int) ≤ (i : Int) := by omega
      by_cases q : i < n
      · have q1 : (i : Int) < (n : Int) := by omega
        obtain ⟨a, x, rfl, hx, A2, n2, c2, K⟩ := HL.out.at (j := i) (by rw [HN.out]; exact q)
        obtain ⟨d0, d1, d2, d3, d4, d5, d6, d7, d8, har, hlen⟩ := K.on H
        have ok := HF.out.2 x (List.mem_of_getElem? hx)
        have hn2 : n2 < 100000 := by rw [← hlen]; exact ok.few
        have HO := Lib.hid hO
        have HX := Lib.hid hx
        have HA := Lib.hid har
        have HL2 := Lib.hid hlen
        have HOK := Lib.hid ok
        obtain ⟨id0, size, lo, lw, lu, so, sw, arms, oth⟩ := x
        have hlen : arms.length = n2 := hlen
        have har : ArmsAt wr A2 arms := har
        obtain ⟨Bx, hBx⟩ : ∃ b, wr.heap.size = b := ⟨_, rfl⟩
        obtain ⟨id1, hid1⟩ : ∃ z, turnG id id0 = z := ⟨_, rfl⟩
        obtain ⟨oth1, hoth1⟩ : ∃ z, turnG id oth = z := ⟨_, rfl⟩
        have ta := gturned_c id0 id
        have tb := gturned_c oth id
        rw [hid1] at ta
        rw [hoth1] at tb
        have HT := Lib.hid (And.intro hid1 hoth1)
        have H0 := (Own.nil (Wider.refl wr)).blk (nodC ⟨id1, size, lo, lw, lu, so, sw, arms, oth1⟩ A2 n2 c2) 28
        rw [hBx] at H0
        obtain ⟨i0, hi, hz0, hz1, hz2⟩ := info_parts ginfoArm
        have H3 := Own.empty H0 26 2
        have hz1' : (wr.alloc (.cells (nodC ⟨id1, size, lo, lw, lu, so, sw, arms, oth1⟩ A2 n2 c2) 28)).heap.size = Bx + 1 := by rw [← hBx]; simp
        rw [hz1'] at H3
        have X1 : Hid (∀ b, A2 = some b → ∀ (j : Nat) u, (cellsArm arms)[j]? = some u → ((wr.alloc (.cells (nodC ⟨id1, size, lo, lw, lu, so, sw, arms, oth1⟩ A2 n2 c2) 28)).alloc (.cells #[] 26)).cell? (b.add j) = some u) :=
          Lib.hid ((har.on H3.wider).lay)
        have L1 : Hid ((cellsArm arms).length = n2 * 2) := Lib.hid (by rw [cellsArm_length, hlen])
        have N1 : Hid (A2 = none → n2 = 0) := Lib.hid fun e => by rw [← hlen, har.none_ e]; rfl
        have S1 : Hid (0 + n2 ≤ maxLen) := by show _ ≤ maxLen; unfold maxLen; omega
        have S2 : Hid ((0 + n2) * 16 ≤ 140737488355328) := by show _ ≤ _; omega
        clear hx K har hlen ok hO H0 hid1 hoth1 hz1'
        go_upto_region 12 with (first
          | (go_at_call 30; ((with_reducible refine (ta _).mono ?_); rintro e w5 ⟨rfl, rfl⟩; clear ta))
          | (go_at_call 30; ((with_reducible refine (tb _).mono ?_); rintro e w5 ⟨rfl, rfl⟩; clear tb))
          | (at_builtin; go_loud (refine wpList_append_thing rfl (.tmp 40) (.tmp 42) 23 rfl 26 i0 (.agg #[.int .u32 0, .int .i64 0]) 2 16 Try.underlying23 hi hz0 hz1 hz2 rfl (by decide) (.slice (some ⟨Bx + 1, 0, none⟩) 0 0) 0 [] rfl H3 A2 n2 c2 (cellsArm arms) rfl L1.out N1.out X1.out (cellsArm_one _) S1.out S2.out (Nat.zero_add n2) rfl ?_; intro B3 c3 w5 H5; have H6 := H5.swap; have f7 := blk_cell H6.head 7 (v := .slice A2 n2 c2) rfl; have g7 := blk_free H6.head 7; have H7 := H6.store 7 (.slice B3 n2 c3); clear H5)))
        have hcs : ((nodC ⟨id1, size, lo, lw, lu, so, sw, arms, oth1⟩ A2 n2 c2).setIfInBounds 7 (.slice B3 n2 c3)) = nodC ⟨id1, size, lo, lw, lu, so, sw, arms, oth1⟩ B3 n2 c3 := by simp
        rw [hcs, List.nil_append] at H7
        generalize (w5.setCell { block := Bx, off := 7 } (Value.slice B3 n2 c3)) = W6 at *
        clear hcs H6 f7 g7 X1 H3 d0 d1 d2 d3 d4 d5 d6 d7 d8 hi hz0 hz1 hz2
        go_wp2
        go_loopw [10] (fun a wz => ∃ k : Nat, k ≤ n2 ∧ a = .int .i64 (k : Int) ∧ Own wr wz [blkT Bx (nodC ⟨id1, size, lo, lw, lu, so, sw, arms, oth1⟩ B3 n2 c3) 28, rowT 26 2 (.slice B3 n2 c3) n2 (cellsArm (turnA id k arms))]) (fun a _ => n2 - (intOf a).toNat)
        case atStart => exact ⟨0, Nat.zero_le _, rfl, H7⟩
        case round =>
          clear H7
          obtain ⟨k, hk0, rfl, H8⟩ := hrel
          have z0 : (0 : Int) ≤ (k : Int) := by omega
          have d7 := blk_cell H8.head 7 (v := .slice B3 n2 c3) rfl
          by_cases z : k < n2
          · have z1 : (k : Int) < (n2 : Int) := by omega
            obtain ⟨⟨v, t⟩, hvt⟩ : ∃ p, arms[k]? = some p := ⟨arms[k]'(by have := HL2.out; show k < arms.length; exact this ▸ z), List.getElem?_eq_getElem _⟩
            have H9 := (H8.quiet (Wider.refl _).drew).swap
            obtain ⟨g, rfl, x0, x1, x2, -, upd⟩ := H9.setNext (turnA_at (o := id) hvt).1
            have HU := Lib.hid (upd (turnG id t))
            have d7' := blk_cell H9.second 7 (v := .slice (some ⟨g, 0, none⟩) n2 c3) rfl
            have zt := gturned_c t id
            have HVT := Lib.hid (turnA_at (o := id) hvt).2
            clear upd hvt H9
            go_upto_region 15 with (fail)
            go_region_law (first
              | (go_simp; go_at_call 30; ((with_reducible refine (zt _).mono ?_); rintro e w9 ⟨rfl, rfl⟩)))
            all_goals
              go_wp2
              go_roundw
              case measure => simp [intOf]; omega
              case rel =>
                have HF2 := HU.out.swap
                rw [HVT.out] at HF2
                exact ⟨k + 1, by omega, by go_num, HF2⟩
          · have e : k = n2 := by omega
            subst e
            have z1 : ¬ ((k : Int) < (k : Int)) := by omega
            have HA4 : ArmsAt wr B3 (arms.map fun p => (p.1, turnG id p.2)) := by
              have := ArmsAt.row (Own.second H8) (by rw [turnA_length]; exact HL2.out)
              rw [turnA_full _ _ _ (Nat.le_of_eq HL2.out)] at this
              exact this
            have H10 := H8.drop
            have HW8 := H8.wider
            have hB8 := H8.head
            have HO8 := HO.out.on HW8
            have HH8 := H.trans HW8
            have HA5 := Lib.hid HA4
            have HW9 := Lib.hid HW8
            have HO9 := Lib.hid HO8
            have HH9 := Lib.hid HH8
            have HB9 := Lib.hid hB8
            clear HA4 H10 HW8 hB8 HO8 HH8 H8
            have HRN : renG id ⟨id0, size, lo, lw, lu, so, sw, arms, oth⟩ = ⟨id1, size, lo, lw, lu, so, sw, arms.map fun p => (p.1, turnG id p.2), oth1⟩ := by
              unfold renG
              rw [← HT.out.1, ← HT.out.2]
            have HR9 := Lib.hid HRN
            clear HRN
            have P0 : Hid (∀ (m : Nat) (y : NodV), m < 0 → out[m]? = some y → y.id < id1) := Lib.hid fun m y h => absurd h (Nat.not_lt_zero _)
            go_upto_block 4 with (fail)
            go_cut [11] from 65 to 80 (fun v wc => ∃ j : Nat, j ≤ i ∧ v = .int .i64 (j : Int) ∧ Wider wr wc ∧ Hid (∀ (m : Nat) (y : NodV), m < j → out[m]? = some y → y.id < id1) ∧ Hid (∀ y, out[j]? = some y → ¬ y.id < id1))
            case first =>
              go_wp2
              go_loopw [11] (fun a wz => ∃ j : Nat, j ≤ i ∧ a = .int .i64 (j : Int) ∧ Wider wr wz ∧ Hid (∀ (m : Nat) (y : NodV), m < j → out[m]? = some y → y.id < id1)) (fun a _ => i - (intOf a).toNat)
              case atStart => exact ⟨0, Nat.zero_le _, rfl, Wider.refl _, P0⟩
              case round =>
                clear P0
                obtain ⟨j, hj0, rfl, G, HJ⟩ := hrel
                have z0 : (0 : Int) ≤ (j : Int) := by omega
                have hol : out.length = i := by rw [HP.out.1.len, List.length_take, HN.out, Nat.min_eq_left hi0]
                have b0 := wkeep G (NodeB.of (x := ⟨id1, size, lo, lw, lu, so, sw, arms, oth1⟩) HB9.out).c0
                have b0 : wr.cell? ⟨Bx, 0, none⟩ = some (.int .i64 id1) := b0
                have p0 := fun (z : After wr) => wkeep z.h b0
                by_cases z : j < i
                · have z1 : (j : Int) < (i : Int) := by omega
                  have z2 : decide ((j : Int) < (i : Int)) = true := decide_eq_true z1
                  obtain ⟨ao, y, eao, hy, Ay, ny, cy, Ky⟩ := (HO9.out.on G).at (j := j) (by rw [hol]; exact z)
                  subst eao
                  have y0 := Ky.c0
                  have p1 := fun (z : After wr) => wkeep z.h y0
                  have HY := Lib.hid hy
                  obtain ⟨yi, hyi⟩ : ∃ t, y.id = t := ⟨_, rfl⟩
                  rw [hyi] at p1
                  have HYI := Lib.hid hyi
                  clear Ky hy y0 b0 hol hyi
                  by_cases cy : yi < id1
                  · have c1 : decide (yi < id1) = true := decide_eq_true cy
                    have HJ2 : Hid (∀ (m : Nat) (y : NodV), m < j + 1 → out[m]? = some y → y.id < id1) := Lib.hid fun m y' hm hy' => by
                      by_cases e : m = j
                      · subst e
                        rw [HY.out] at hy'
                        cases hy'
                        rw [HYI.out]; exact cy
                      · exact HJ.out m y' (by omega) hy'
                    go_upto_region 17 with (fail)
                    refine wp_region_after (by kernel_rfl) (by kernel_rfl) (Wider.refl wr) ?_
                    repeat (go_big_quiet_step (fail))
                    refine wpQuiet_nil ?_
                    rintro _ ⟨yy, rfl⟩
                    go_wp2
                    go_roundw
                    case measure => simp [intOf]; omega
                    case rel => exact ⟨j + 1, by omega, by go_num, G.trans yy.h, HJ2⟩
                  · have c1 : decide (yi < id1) = false := decide_eq_false cy
                    have HE : Hid (∀ y, out[j]? = some y → ¬ y.id < id1) := Lib.hid fun y' hy' => by
                      rw [HY.out] at hy'
                      cases hy'
                      rw [HYI.out]; exact cy
                    go_upto_region 17 with (fail)
                    refine wp_region_after (by kernel_rfl) (by kernel_rfl) (Wider.refl wr) ?_
                    repeat (go_big_quiet_step (fail))
                    refine wpQuiet_nil ?_
                    rintro _ ⟨yy, rfl⟩
                    go_wp2
                    go_meet
                    case rel => exact ⟨j, hj0, rfl, G.trans yy.h, HJ, HE⟩
                · have z1 : ¬ (j : Int) < (i : Int) := by omega
                  have z2 : decide ((j : Int) < (i : Int)) = false := decide_eq_false z1
                  have HE : Hid (∀ y, out[j]? = some y → ¬ y.id < id1) := Lib.hid fun y' hy' => by
                    have := (List.getElem?_eq_some_iff.1 hy').1
                    omega
                  clear hol b0
                  go_upto_region 17 with (fail)
                  refine wp_region_after (by kernel_rfl) (by kernel_rfl) (Wider.refl wr) ?_
                  repeat (go_big_quiet_step (fail))
                  refine wpQuiet_nil ?_
                  rintro _ ⟨yy, rfl⟩
                  go_wp2
                  go_meet
                  case rel => exact ⟨j, hj0, rfl, G.trans yy.h, HJ, HE⟩
            case rest =>
              clear P0
              obtain ⟨j, hj0, rfl, G, HJ, HE⟩ := hcut
              obtain ⟨wz, hwz⟩ : ∃ x, wc = x := ⟨_, rfl⟩
              rw [hwz] at G
              try rw [hwz]
              clear hwz
              go_upto_region 19 with (fail)
              obtain ⟨lo', hlo, hmo, layo⟩ := (HO9.out.on G).lay
              have HBX : Hid (∀ W, Wider wz W → W.heap[Bx]? = some (.cells (nodC ⟨id1, size, lo, lw, lu, so, sw, arms, oth1⟩ B3 k c3) 28 (0, 0))) := Lib.hid fun W g => (wheap (G.trans g) (Array.getElem?_eq_some_iff.1 HB9.out).1).trans HB9.out
              have hll : lo'.length = i := by have := congrArg List.length hlo; rw [List.length_map, HP.out.1.len, List.length_take, HN.out, Nat.min_eq_left hi0] at this; exact this
              have HLL := Lib.hid hll
              have HLO := Lib.hid hlo
              have HMO := Lib.hid hmo
              obtain ⟨i1, hi1, hy0, hy1, hy2⟩ := info_parts ginfoN
              have W0 := Wider.refl wz
              have W1 := W0.drew
              have W2 := (W0.alloc (.cells #[] 28)).drew
              have HA1 : Own wz (wz.alloc (.cells #[] 28)).drew [rowT 28 9 (.slice (some ⟨wz.heap.size, 0, none⟩) 0 0) 0 []] := ((Own.nil W0).empty 28 9).quiet (Wider.refl _).drew
              have HA2 : Own wz ((wz.alloc (.cells #[] 28)).alloc (.cells (nodC ⟨id1, size, lo, lw, lu, so, sw, arms, oth1⟩ B3 k c3) 28)).drew [rowT 28 9 (.slice (some ⟨wz.heap.size, 0, none⟩) 0 0) 0 [], blkT (wz.heap.size + 1) (nodC ⟨id1, size, lo, lw, lu, so, sw, arms, oth1⟩ B3 k c3) 28] := by
                have q := (((Own.nil W0).empty 28 9).blk (nodC ⟨id1, size, lo, lw, lu, so, sw, arms, oth1⟩ B3 k c3) 28).swap.quiet (Wider.refl _).drew
                have zz : (wz.alloc (.cells #[] 28)).heap.size = wz.heap.size + 1 := by simp
                rw [zz] at q
                exact q
              have X2 : Hid (∀ b, B = some b → ∀ (m : Nat) u, (cellsNd (lo'.take j))[m]? = some u → ((wz.alloc (.cells #[] 28)).alloc (.cells (nodC ⟨id1, size, lo, lw, lu, so, sw, arms, oth1⟩ B3 k c3) 28)).drew.cell? (b.add m) = some u) := Lib.hid fun b e m u hu => wkeep HA2.wider (lay_take layo j (by omega) b e m u hu)
              have HA3 : Own wz ((wz.alloc (.cells (nodC ⟨id1, size, lo, lw, lu, so, sw, arms, oth1⟩ B3 k c3) 28)).alloc (.cells #[] 28)).drew [rowT 28 9 (.slice (some ⟨wz.heap.size + 1, 0, none⟩) 0 0) 0 [], blkT wz.heap.size (nodC ⟨id1, size, lo, lw, lu, so, sw, arms, oth1⟩ B3 k c3) 28] := by
                have q := (((Own.nil W0).blk (nodC ⟨id1, size, lo, lw, lu, so, sw, arms, oth1⟩ B3 k c3) 28).empty 28 9).quiet (Wider.refl _).drew
                have zz : (wz.alloc (.cells (nodC ⟨id1, size, lo, lw, lu, so, sw, arms, oth1⟩ B3 k c3) 28)).heap.size = wz.heap.size + 1 := by simp
                rw [zz] at q
                exact q
              have X3 : Hid (∀ b, B = some b → ∀ (m : Nat) u, (cellsNd (lo'.take j))[m]? = some u → ((wz.alloc (.cells (nodC ⟨id1, size, lo, lw, lu, so, sw, arms, oth1⟩ B3 k c3) 28)).alloc (.cells #[] 28)).drew.cell? (b.add m) = some u) := Lib.hid fun b e m u hu => wkeep HA3.wider (lay_take layo j (by omega) b e m u hu)
              have X1 : Hid (∀ b, B = some b → ∀ (m : Nat) u, (cellsNd (lo'.take j))[m]? = some u → (wz.alloc (.cells #[] 28)).drew.cell? (b.add m) = some u) := Lib.hid fun b e m u hu => wkeep W2 (lay_take layo j (by omega) b e m u hu)
              have L1 : Hid ((cellsNd (lo'.take j)).length = j * 9) := Lib.hid (by rw [cellsNd_length, List.length_take, Nat.min_eq_left (by omega)])
              have L2 : Hid ((cellsNd (lo'.drop j)).length = (i - j) * 9) := Lib.hid (by rw [cellsNd_length, List.length_drop, hll])
              have N1 : Hid (B = none → j = 0) := Lib.hid fun e => by have := (HO9.out.none_ e); rw [← hlo] at this; have := congrArg List.length this; rw [List.length_map, hll] at this; simp at this; omega
              obtain ⟨A8, hA8⟩ : ∃ A8, (if c' = j then B else B.map fun a => a.add (j * 9)) = A8 := ⟨_, rfl⟩
              have X8 := Lib.hid (layA layo (by omega) (by omega) (fun e => List.eq_nil_of_length_eq_zero (by have := (HO9.out.none_ e); rw [← hlo] at this; have := congrArg List.length this; rw [List.length_map] at this; simpa using this)) hA8)
              have hA9 := hA8
              have S1 : Hid (0 + j ≤ maxLen) := by show _ ≤ maxLen; unfold maxLen; omega
              have S2 : Hid ((0 + j) * 88 ≤ 140737488355328) := by show _ ≤ _; omega
              have S3 : Hid (j + 1 ≤ maxLen) := by show _ ≤ maxLen; unfold maxLen; omega
              have S4 : Hid ((j + 1) * 88 ≤ 140737488355328) := by show _ ≤ _; omega
              have S5 : Hid (j + 1 + (i - j) ≤ maxLen) := by show _ ≤ maxLen; unfold maxLen; omega
              have S6 : Hid ((j + 1 + (i - j)) * 88 ≤ 140737488355328) := by show _ ≤ _; omega
              have SN : Hid (j + 1 + (i - j) = i + 1) := Lib.hid (by omega)
              have q1 : (j : Int) ≤ (c' : Int) := by omega
              have q4 : j ≤ c' := by omega
              have q5 : j ≤ i := hj0
              have q6 : (j : Int) ≤ (i : Int) := by omega
              have q7 : i ≤ c' := hic
              clear hA8 layo hmo hlo hll
              obtain ⟨a0, a1, a2, a3, a4, a5, a6, a7, a8⟩ := NodeB.of (HBX.out _ W1)
              obtain ⟨b0, b1, b2, b3, b4, b5, b6, b7, b8⟩ := NodeB.of (HBX.out _ W2)
              dsimp only at a0 a1 a2 a3 a4 a5 a6 a7 a8 b0 b1 b2 b3 b4 b5 b6 b7 b8
              go_region_law (first
                | (refine step_append_thing rfl (.tmp 81) (.tmp 84) 29 rfl 28 i1 zeroNV 9 88 Try.underlying29 hi1 hy0 hy1 hy2 rfl (by decide) (.slice (some ⟨wz.heap.size, 0, none⟩) 0 0) 0 [] (by simp [Act.eval]) HA1 (B) j c' (cellsNd (lo'.take j)) (by simp [Act.eval]) L1.out N1.out X1.out (cellsNd_one _) S1.out S2.out (Nat.zero_add j) rfl ?_; intro B5 c5 w8 H5; have V1 : True := trivial; have W5 := H5.wider; obtain ⟨o0, o1, o2, o3, o4, o5, o6, o7, o8⟩ := NodeB.of (HBX.out _ W5); dsimp only at o0 o1 o2 o3 o4 o5 o6 o7 o8; have H6 := H5.quiet ((Wider.refl w8).alloc (.cells (nodC ⟨id1, size, lo, lw, lu, so, sw, arms, oth1⟩ B3 k c3) 28)); have X6 := node_lies w8 ⟨⟨id1, size, lo, lw, lu, so, sw, arms, oth1⟩, B3, k, c3⟩ 28)
                | (refine step_append_thing rfl (.tmp 81) (.tmp 84) 29 rfl 28 i1 zeroNV 9 88 Try.underlying29 hi1 hy0 hy1 hy2 rfl (by decide) (.slice (some ⟨wz.heap.size, 0, none⟩) 0 0) 0 [] (by simp [Act.eval]) HA2 B j c' (cellsNd (lo'.take j)) (by simp [Act.eval]) L1.out N1.out X2.out (cellsNd_one _) S1.out S2.out (Nat.zero_add j) rfl ?_; intro B5 c5 w8 H5; have V2 : True := trivial; have X6 := blk_lay (xs := cellsNd [⟨⟨id1, size, lo, lw, lu, so, sw, arms, oth1⟩, B3, k, c3⟩]) H5.second (by unfold cellsNd; simp))
                | (refine step_append_thing rfl (.tmp 85) (.tmp 87) 29 rfl 28 i1 zeroNV 9 88 Try.underlying29 hi1 hy0 hy1 hy2 rfl (by decide) (.slice B5 j c5) j ([] ++ cellsNd (lo'.take j)) (by simp [Act.eval]) H5 (some ⟨wz.heap.size + 1, 0, none⟩) 1 1 (cellsNd [⟨⟨id1, size, lo, lw, lu, so, sw, arms, oth1⟩, B3, k, c3⟩]) (by simp [Act.eval]) rfl (fun e => by cases e) X6 (cellsNd_one _) S3.out S4.out rfl rfl ?_; intro B6 c6 w9 H7; have X9 := X8.out.1 _ H7.wider)
                | ((refine step_append_thing rfl (.tmp 85) (.tmp 87) 29 rfl 28 i1 zeroNV 9 88 Try.underlying29 hi1 hy0 hy1 hy2 rfl (by decide) (.slice B5 j c5) j ([] ++ cellsNd (lo'.take j)) (by simp [Act.eval]) H6 (some ⟨w8.heap.size, 0, none⟩) 1 1 (cellsNd [⟨⟨id1, size, lo, lw, lu, so, sw, arms, oth1⟩, B3, k, c3⟩]) (by simp [Act.eval]) rfl (fun e => by cases e) X6 (cellsNd_one _) S3.out S4.out rfl rfl ?_; intro B6 c6 w9 H7; have X9 := X8.out.1 _ H7.wider))
                | (refine step_append_thing rfl (.tmp 81) (.tmp 84) 29 rfl 28 i1 zeroNV 9 88 Try.underlying29 hi1 hy0 hy1 hy2 rfl (by decide) (.slice (some ⟨wz.heap.size + 1, 0, none⟩) 0 0) 0 [] (by simp [Act.eval]) HA3 (B) j c' (cellsNd (lo'.take j)) (by simp [Act.eval]) L1.out N1.out X3.out (cellsNd_one _) S1.out S2.out (Nat.zero_add j) rfl ?_; intro B5 c5 w8 H5; have V3 : True := trivial; have X6 := blk_lay (xs := cellsNd [⟨⟨id1, size, lo, lw, lu, so, sw, arms, oth1⟩, B3, k, c3⟩]) H5.second (by unfold cellsNd; simp))
                | (refine step_append_thing rfl (.tmp 85) (.tmp 87) 29 rfl 28 i1 zeroNV 9 88 Try.underlying29 hi1 hy0 hy1 hy2 rfl (by decide) (.slice B5 j c5) j ([] ++ cellsNd (lo'.take j)) (by simp [Act.eval]) H5 (some ⟨wz.heap.size, 0, none⟩) 1 1 (cellsNd [⟨⟨id1, size, lo, lw, lu, so, sw, arms, oth1⟩, B3, k, c3⟩]) (by simp [Act.eval]) rfl (fun e => by cases e) X6 (cellsNd_one _) S3.out S4.out rfl rfl ?_; intro B6 c6 w9 H7; have X9 := X8.out.1 _ H7.wider)
                | ((refine step_append_thing rfl (.tmp 88) (.tmp 91) 29 rfl 28 i1 zeroNV 9 88 Try.underlying29 hi1 hy0 hy1 hy2 rfl (by decide) (.slice B6 (j + 1) c6) (j + 1) ([] ++ cellsNd (lo'.take j) ++ cellsNd [⟨⟨id1, size, lo, lw, lu, so, sw, arms, oth1⟩, B3, k, c3⟩]) (by simp [Act.eval]) H7 A8 (i - j) (c' - j) (cellsNd (lo'.drop j)) (by simp [Act.eval]) L2.out (fun e => HLL.out ▸ X8.out.2 e) X9 (cellsNd_one _) S5.out S6.out SN.out rfl ?_; intro B7 c7 w10 H8)))
              all_goals
                have hd := H8.head
                have HW8 := H8.wider
                have hd : World.ownsRow _ 0 _ 9 (.slice B7 (i + 1) c7) (i + 1) ([] ++ cellsNd (lo'.take j) ++ cellsNd [⟨⟨id1, size, lo, lw, lu, so, sw, arms.map fun p => (p.1, turnG id p.2), oth1⟩, B3, k, c3⟩] ++ cellsNd (lo'.drop j)) := hd
                rw [List.nil_append, ← cellsNd_append, ← cellsNd_append] at hd
                have kk := NodesAt.row hd (by rw [List.length_append, List.length_append, List.length_take, List.length_drop, HLL.out]; simp only [List.length_cons, List.length_nil]; omega) (fun e he => by
                  rcases List.mem_append.1 he with he | he
                  · rcases List.mem_append.1 he with he | he
                    · exact HMO.out.on HW8 e (List.mem_of_mem_take he)
                    · simp only [List.mem_cons, List.not_mem_nil, or_false] at he
                      subst he
                      exact ⟨HA5.out.on (G.trans HW8), by rw [List.length_map]; exact HL2.out⟩
                  · exact HMO.out.on HW8 e (List.mem_of_mem_drop he))
                rw [List.map_append, List.map_append, List.map_take, List.map_drop, HLO.out] at kk
                have e : out.take j ++ ⟨id1, size, lo, lw, lu, so, sw, arms.map fun p => (p.1, turnG id p.2), oth1⟩ :: out.drop j = out.take j ++ [⟨id1, size, lo, lw, lu, so, sw, arms.map fun p => (p.1, turnG id p.2), oth1⟩] ++ out.drop j := by simp
                have kk2 : Hid (i + 1 ≤ c7 ∧ (B7 = none → c7 = 0) ∧ Wider wz _ ∧ NodesAt _ B7 (out.take j ++ ⟨id1, size, lo, lw, lu, so, sw, arms.map fun p => (p.1, turnG id p.2), oth1⟩ :: out.drop j)) := Lib.hid ⟨row_le hd, fun e => absurd (row_none hd e) (Nat.succ_ne_zero i), HW8, by rw [e]; exact kk⟩
                have hp := perm_next (formsG_sorted HV.out.form) HP.out.1 HX.out (j := j) (fun m y hm hy => by rw [HR9.out]; exact HJ.out m y hm hy) (fun y hy => by rw [HR9.out]; exact HE.out y hy)
                rw [HR9.out] at hp
                have HPP := Lib.hid (And.intro hp (few_next HF.out hp))
                have HHZ := Lib.hid (HH9.out.trans G)
                clear hp hd HW8 kk e H8 H7 H5 a0 a1 a2 a3 a4 a5 a6 a7 a8 b0 b1 b2 b3 b4 b5 b6 b7 b8 W0 W1 W2 HA1 HA2 HA3 hA9 q1 q4 q5 q6 q7 hi1 hy0 hy1 hy2 G hk0 X1 X2 X3 X8 X9 L1 L2 N1 S1 S2 S3 S4 S5 S6 HBX
                try clear o0 o1 o2 o3 o4 o5 o6 o7 o8
                try clear W5 H6 X6
                go_wp2
                go_roundw
                case measure => simp [intOf]; omega
                case rel => exact ⟨i + 1, by omega, by go_num, B7, c7, _, rfl, kk2.out.1, kk2.out.2.1, HHZ.out.trans kk2.out.2.2.1, kk2.out.2.2.2, HPP⟩
      · have e : i = n := by omega
        subst e
        have q1 : ¬ ((i : Int) < (i : Int)) := by omega
        have e2 : L.take i = L := List.take_of_length_le (by rw [HN.out]; exact Nat.le_refl _)
        have hp := HP.out.1
        rw [e2] at hp
        have zl := glongest_c (c := c') (n := i) hO (by rw [hp.len, HN.out]) HP.out.2 (hp.long HIO.out HV.out HD.out)
        clear e2 hp
        go_wp2_with (first
          | (go_at_call 12; ((with_reducible refine zl.mono ?_); rintro e w9 ⟨rfl, g⟩; replace H := H.trans g; clear zl g)))
        go_ret
        exact ⟨rfl, H⟩
  · obtain rfl : 0 = d := (Dep.none hno).unique HD.out
    have G2 := G.alloc (.cells (nodC xf Bf mf df) 28)
    clear hno hz
    go_wp2
    go_ret
    exact ⟨rfl, G2⟩

end Go.Proofs.Ytilebacnjagneaa
