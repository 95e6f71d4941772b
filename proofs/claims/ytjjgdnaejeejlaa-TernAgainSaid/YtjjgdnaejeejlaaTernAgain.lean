/- The law TernAgain: an item that is put again has its new number, stands behind all others, and all else is as it was; taken out, all others stay, in their row. No condition. -/
import Derived.Test.YtjjgdnaejeejlaaUAgain
import Derived.Test.YtjjgdnaejeejlaaUAct
import Derived.Test.YtjjgdnaejeejlaaUEnd
import Derived.Test.YtjjgdnaejeejlaaSMake
import Derived.StillTailTactics
import Derived.Deep.QuietTactic
namespace Go.Proofs.Ytjjgdnaejeejlaa
set_option linter.unusedVariables false
open Go.ChangeShapes Go.WideShapes Go.ChangeAt Go.RowKit Go.Joins
open Go.ChangeMaps (open_string shut_string)

theorem again_but {L : List ItN} (hf : FineL L) {k : Nat} {kx mx : ByteArray} {px vx : Int} (hx : L[k]? = some ⟨kx, mx, px, vx⟩) (v : Int) : butL L ⟨kx, mx, px, v⟩ = L.take k ++ L.drop (k + 1) := by
  obtain ⟨hk, e⟩ := List.getElem?_eq_some_iff.1 hx
  have d : L.drop k = L[k] :: L.drop (k + 1) := List.drop_eq_getElem_cons hk
  have e2 : L = L.take k ++ L[k] :: L.drop (k + 1) := by rw [← d, List.take_append_drop]
  have one := hf.one
  rw [e2] at one
  obtain ⟨p1, p2, p3⟩ := List.pairwise_append.1 one
  obtain ⟨p4, p5⟩ := List.pairwise_cons.1 p2
  have a : butL (L.take k) ⟨kx, mx, px, v⟩ = L.take k := butL_none fun y hy hs => by
    refine p3 y hy L[k] (.head _) ?_
    rw [e]; exact hs
  have b : butL (L.drop (k + 1)) ⟨kx, mx, px, v⟩ = L.drop (k + 1) := butL_none fun y hy hs => by
    refine p4 y hy ?_
    rw [e]; exact sameN_symm hs
  have c : butL L ⟨kx, mx, px, v⟩ = butL (L.take k) ⟨kx, mx, px, v⟩ ++ butL (L.drop (k + 1)) ⟨kx, mx, px, v⟩ := by
    conv => lhs; rw [e2]
    unfold butL
    rw [List.filter_append, List.filter_cons, if_neg]
    rw [e]
    simp [SameN]
  rw [c, a, b]
theorem again_no {L : List ItN} (hf : FineL L) {k : Nat} {kx mx : ByteArray} {px vx : Int} (hx : L[k]? = some ⟨kx, mx, px, vx⟩) : ∀ y ∈ L.take k ++ L.drop (k + 1), ¬ SameN y ⟨kx, mx, px, 0⟩ := by
  intro y hy
  rw [← again_but hf hx 0] at hy
  simpa [butL] using (List.mem_filter.1 hy).2
theorem row_cap {w : World} {E : TypeId} {k n c : Nat} {A : Option Addr} {xs : List Value} (h : w.ownsRow 0 E k (.slice A n c) n xs) (hn : 0 < n) : n ≤ c ∧ c ≤ maxLen := by
  rcases h.2 with ⟨q, q2⟩ | ⟨g, cap, cur, q, hb, hg, h1, h2, h3, h4⟩
  · injection q with q1 q2 q3; omega
  · injection q with q1 q2 q3
    subst q3
    exact ⟨h1, h2⟩
set_option maxRecDepth 20000 in
set_option maxHeartbeats 16000000 in
theorem ternAgain_walk (w : World) (A : Option Addr) (n cap : Nat) (l : List ActU) (hl : l.length = n) (ha : ActsUAt w A l) (hn : l.length ≤ maxLen) (hz : ∀ y ∈ l, y.Ok) (which : Int) (which0 : -9223372036854775808 ≤ which) (which1 : which ≤ 9223372036854775807) (v : Int) (v0 : -9223372036854775808 ≤ v) (v1 : v ≤ 9223372036854775807) :
    Calls Try.prog 8 #[.slice A n cap, .int .i64 which, .int .i64 v] w fun e w' => e = .returned (.bool true) ∧ Wider w w' := by
  unfold maxLen at hn
  have H : Own w w [] := Own.nil (Wider.refl w)
  by_cases hb : 4000 ≤ bulkU l
  · have zl := fun w1 (g : Wider w w1) => ulong_c A n cap l w1 (ha.on g) hl (by omega) (fun x hx => by have a := (hz x hx).x.ks; have b := (hz x hx).x.ms; unfold maxLen at a b; omega) (decide_eq_true hb)
    clear hl ha hn hz hb
    go_enter Try.func8, Try.ntmps8
    go_wp2_with (first
      | (go_at_call 22; ((with_reducible refine (zl _ H.wider).mono ?_); rintro e w9 ⟨rfl, g9⟩; replace H := H.quiet g9; clear g9))
      | (go_at_call 9; ((with_reducible refine (awake12_c _).mono ?_); rintro e wa ⟨rfl, g⟩; replace H := H.quiet g; clear g)))
    go_ret
    exact ⟨rfl, H.wider⟩
  · have zl := fun w1 (g : Wider w w1) => ulong_c A n cap l w1 (ha.on g) hl (by omega) (fun x hx => by have a := (hz x hx).x.ks; have b := (hz x hx).x.ms; unfold maxLen at a b; omega) (decide_eq_false hb)
    have HF := Lib.hid (fineU_of (by omega) hz)
    have HL := Lib.hid hl
    have HA := Lib.hid ha
    have hn1 : n < 1000 := by have := HF.out.1; omega
    clear hl ha hn hz hb
    have HM := Lib.hid (fine_made HF.out)
    have HLN := Lib.hid (madeL_len l)
    go_enter Try.func8, Try.ntmps8
    go_upto_region 5 with (first
      | (go_at_call 22; ((with_reducible refine (zl _ H.wider).mono ?_); rintro e w9 ⟨rfl, g9⟩; replace H := H.quiet g9; clear g9))
      | (go_at_call 9; ((with_reducible refine (awake12_c _).mono ?_); rintro e wa ⟨rfl, g⟩; replace H := H.quiet g; clear g))
      | (go_at_call 23; ((with_reducible refine (umade_c HL.out (HA.out) HF.out H).mono ?_); rintro e w1 ⟨S, rfl, K⟩; clear H))
      | (go_at_call 20; ((with_reducible refine (sall_o K (by omega) rfl).mono ?_); rintro e w4 ⟨B4, c4, rfl, K4⟩; clear K)))
    obtain ⟨L, hLe⟩ : ∃ L, madeL l = L := ⟨_, rfl⟩
    obtain ⟨m, hm⟩ : ∃ m, L.length = m := ⟨_, rfl⟩
    have hmn : m ≤ n := by have := HLN.out; rw [HL.out, hLe, hm] at this; exact this
    rw [hLe] at K4
    rw [hm] at K4
    rw [hLe, hm]
    have HLM := Lib.hid hm
    have HFL := Lib.hid (show FineL L by rw [← hLe]; exact HM.out)
    clear hLe hm zl
    by_cases z : m = 0
    · have z1 : ((m : Int) == 0) = true := by rw [beq_iff_eq]; omega
      have z2 : (m : Int) = 0 := by omega
      go_wp2
      go_ret
      exact ⟨rfl, K4.wider⟩
    have z1 : ((m : Int) == 0) = false := by rw [beq_eq_false_iff_ne]; omega
    have z2 : ¬ (m : Int) = 0 := by omega
    obtain ⟨zu, hzu⟩ : ∃ zu : Nat, IntKind.u64.wrap which = (zu : Int) := ⟨(IntKind.u64.wrap which).toNat, by rw [Int.toNat_of_nonneg]; simp [IntKind.wrap, IntKind.bits, IntKind.signed]; omega⟩
    obtain ⟨k, hk⟩ : ∃ k, zu % m = k := ⟨_, rfl⟩
    have hkm : k < m := by rw [← hk]; exact Nat.mod_lt _ (by omega)
    have t1 : (zu : Int).tmod (m : Int) = (k : Int) := by rw [Int.tmod_eq_emod_of_nonneg (by omega), ← hk]; omega
    have t2 : IntKind.u64.wrap (m : Int) = (m : Int) := by simp [IntKind.wrap, IntKind.bits, IntKind.signed]; omega
    have t3 : IntKind.u64.wrap (k : Int) = (k : Int) := by simp [IntKind.wrap, IntKind.bits, IntKind.signed]; omega
    have t4 : IntKind.i64.wrap (k : Int) = (k : Int) := by simp [IntKind.wrap, IntKind.bits, IntKind.signed]; omega
    have t5 : IntKind.i64.wrap ((k : Int) + 1) = (k : Int) + 1 := by simp [IntKind.wrap, IntKind.bits, IntKind.signed]; omega
    have k0' : (0 : Int) ≤ (k : Int) := by omega
    have k1' : (k : Int) < (m : Int) := by omega
    obtain ⟨x, hx⟩ : ∃ x, L[k]? = some x := ⟨L[k]'(by rw [HLM.out]; exact hkm), List.getElem?_eq_getElem _⟩
    obtain ⟨B, c5, e, hc⟩ := row_slice K4.rest.head (by omega)
    injection e with e1 e2 e3
    subst e1 e3
    obtain ⟨a0, a1, a2, a3⟩ := cellsI_at L k x hx
    have x0 := hc _ _ a0
    have x1 := hc _ _ a1
    have x2 := hc _ _ a2
    have x3 := hc _ _ a3
    have HX := Lib.hid hx
    have HXF := Lib.hid (HFL.out.of x (List.mem_of_getElem? hx))
    obtain ⟨kx, mx, px, vx⟩ := x
    have HC := Lib.hid hc
    have hmc := row_cap K4.rest.head (by omega)
    have hkc : k ≤ c4 := by omega
    have hkc2 : (k : Int) ≤ (c4 : Int) := by omega
    have hkc3 : k + 1 ≤ m := by omega
    have hkc4 : (k : Int) + 1 ≤ (m : Int) := by omega
    have hkc5 : m ≤ c4 := hmc.1
    have hkc6 : (m : Int) ≤ (c4 : Int) := by omega
    clear a0 a1 a2 a3 hc hx hk
    go_upto_region 10 with (fail)
    have K5 := K4.blk #[.string kx, .string mx, .int .i64 px, .int .i64 v] 26
    have g5 := (Wider.refl w4).alloc (.cells #[.string kx, .string mx, .int .i64 px, .int .i64 v] 26)
    obtain ⟨B5, hB5⟩ : ∃ B5, w4.heap.size = B5 := ⟨_, rfl⟩
    obtain ⟨W5, hW5⟩ : ∃ W5, w4.alloc (.cells #[.string kx, .string mx, .int .i64 px, .int .i64 v] 26) = W5 := ⟨_, rfl⟩
    rw [hW5, hB5] at K5
    rw [hW5] at g5
    rw [hW5]
    try rw [hB5]
    clear hW5 hB5 K4 x0 x1 x2 x3
    obtain ⟨s, eS, H, hl⟩ := K5
    have HES := Lib.hid eS
    have HSL := Lib.hid hl
    have H6 : Own W5 (W5.alloc (.cells #[] 26)).drew [rowT 26 4 (.slice (some ⟨W5.heap.size, 0, none⟩) 0 0) 0 []] :=
      (((Own.nil (Wider.refl W5)).blk #[] 26).rowShut (n := 0) (c := 0) (cur := []) (xs := []) (Nat.le_refl _) (Nat.zero_le _) rfl rfl).quiet (Wider.refl _).drew
    have HC6 : Hid (∀ a, some (⟨B, 0, none⟩ : Addr) = some a → ∀ j u, (cellsI (L.take k))[j]? = some u → ((W5.alloc (.cells #[] 26)).drew).cell? (a.add j) = some u) := Lib.hid fun a e j u hu => by
      injection e with e
      subst e
      rw [Addr.add_lit, Nat.zero_add]
      refine wkeep (g5.alloc _).drew (HC.out j u ?_)
      rw [← cellsI_take, List.getElem?_take] at hu
      split at hu
      · exact hu
      · cases hu
    have HLT : Hid ((cellsI (L.take k)).length = k * 4) := Lib.hid (by rw [cellsI_length, List.length_take, HLM.out, Nat.min_eq_left (Nat.le_of_lt hkm)])
    have HLD : Hid ((cellsI (L.drop (k + 1))).length = (m - (k + 1)) * 4) := Lib.hid (by rw [cellsI_length, List.length_drop, HLM.out])
    obtain ⟨D, hD⟩ : ∃ D : Option Addr, (if c4 = k + 1 then some (⟨B, 0, none⟩ : Addr) else some ⟨B, (k + 1) * 4, none⟩) = D := ⟨_, rfl⟩
    have hk0 : (0 : Int) ≤ (k : Int) + 1 := by omega
    have HCD : Hid (∀ W, Wider W5 W → ∀ a, D = some a → ∀ j u, (cellsI (L.drop (k + 1)))[j]? = some u → W.cell? (a.add j) = some u) := Lib.hid fun W gW a e j u hu => by
      have hu2 := hu
      rw [← cellsI_drop, List.getElem?_drop] at hu
      have hlen := (List.getElem?_eq_some_iff.1 hu).1
      rw [cellsI_length, HLM.out] at hlen
      rw [← hD, if_neg (by omega)] at e
      injection e with e
      subst e
      rw [Addr.add_lit]
      exact wkeep (g5.trans gW) (HC.out _ _ hu)
    have S1 : Hid (0 + k ≤ maxLen) := Lib.hid (by unfold maxLen; omega)
    have S2 : Hid ((0 + k) * 48 ≤ 140737488355328) := Lib.hid (by omega)
    obtain ⟨i0, hi, hz0, hz1, hz2⟩ := info_parts infoItem
    have H6 := Lib.hid H6
    have HB := Lib.hid H
    have HG := Lib.hid g5
    have S3 : Hid (k + (m - (k + 1)) ≤ maxLen) := Lib.hid (by unfold maxLen; omega)
    have S4 : Hid ((k + (m - (k + 1))) * 48 ≤ 140737488355328) := Lib.hid (by omega)
    have S5 : Hid (k + (m - (k + 1)) = m - 1) := Lib.hid (by omega)
    have HDN : Hid (¬ D = none) := Lib.hid fun e => by
      rw [← hD] at e
      split at e <;> cases e
    clear eS hl H g5
    go_region_law (first
      | (refine step_append_thing rfl (.tmp 39) (.tmp 42) 38 rfl 26 i0 (.agg #[.string ⟨#[]⟩, .string ⟨#[]⟩, .int .i64 0, .int .i64 0]) 4 48 Try.underlying38 hi hz0 hz1 hz2 rfl (by decide) (.slice (some ⟨W5.heap.size, 0, none⟩) 0 0) 0 [] (by simp [Act.eval]) H6.out (some ⟨B, 0, none⟩) k c4 (cellsI (L.take k)) (by simp [Act.eval]) HLT.out (fun e => by cases e) HC6.out (cellsI_one _) S1.out S2.out (Nat.zero_add k) (List.nil_append _) ?_; intro B6 c6 w6 H7)
      | (refine step_append_thing rfl (.tmp 43) (.tmp 47) 38 rfl 26 i0 (.agg #[.string ⟨#[]⟩, .string ⟨#[]⟩, .int .i64 0, .int .i64 0]) 4 48 Try.underlying38 hi hz0 hz1 hz2 rfl (by decide) (.slice B6 k c6) k (cellsI (L.take k)) (by simp [Act.eval]) H7 D (m - (k + 1)) (c4 - (k + 1)) (cellsI (L.drop (k + 1))) (by simp [Act.eval]) HLD.out (fun e => absurd e HDN.out) (HCD.out _ H7.wider) (cellsI_one _) S3.out S4.out S5.out (cellsI_append _ _).symm ?_; intro B7 c7 w7 H8))
    all_goals
      have K7 : SetIs w w7 [rowI (.slice B7 (m - 1) c7) (m - 1) (L.take k ++ L.drop (k + 1)), blkT B5 #[.string kx, .string mx, .int .i64 px, .int .i64 v] 26, rowI (.slice (some ⟨B, 0, none⟩) m c4) m L] S L n := ⟨s, HES.out, (HB.out.over H8).perm (List.perm_middle (l₁ := s.things)).symm, HSL.out⟩
      clear H8 H7
      obtain ⟨rest, hrest⟩ : ∃ rest, L.take k ++ L.drop (k + 1) = rest := ⟨_, rfl⟩
      rw [hrest] at K7
      obtain ⟨M, hM⟩ : ∃ M, rest ++ [⟨kx, mx, px, v⟩] = M := ⟨_, rfl⟩
      have HRS := Lib.hid hrest
      have HMM := Lib.hid hM
      have HRL : Hid (rest.length = m - 1) := Lib.hid (by rw [← hrest, List.length_append, List.length_take, List.length_drop, HLM.out]; omega)
      have HML : Hid (M.length = m) := Lib.hid (by rw [← hM, List.length_append, HRL.out]; simp; omega)
      obtain ⟨R, hR⟩ : ∃ R, [rowI (.slice B7 (m - 1) c7) (m - 1) rest, blkT B5 #[.string kx, .string mx, .int .i64 px, .int .i64 v] 26, rowI (.slice (some ⟨B, 0, none⟩) m c4) m L] = R := ⟨_, rfl⟩
      obtain ⟨hf1, _, hf2, hf3⟩ := HXF.out
      have hf1 : FormN ⟨kx, mx, px, v⟩ := hf1
      have hf2 : kx.size < 1000000 := hf2
      have hf3 : mx.size < 1000000 := hf3
      have hbut : butL L ⟨kx, mx, px, v⟩ ++ [⟨kx, mx, px, v⟩] = M := by rw [← hM, ← hrest]; congr 1; exact again_but HFL.out HX.out v
      have HR0 : Hid (rowI (.slice B7 (m - 1) c7) (m - 1) rest ∈ R) := Lib.hid (by rw [← hR]; exact .head _)
      have HR1 : Hid (blkT B5 #[.string kx, .string mx, .int .i64 px, .int .i64 v] 26 ∈ R) := Lib.hid (by rw [← hR]; exact .tail _ (.head _))
      rw [hR] at K7
      have HRR := Lib.hid hR
      have HK7 := Lib.hid K7
      clear hrest hM hR K7 H6 HC6 HCD HLT HLD HB HG HDN S1 S2 S3 S4 S5 HES HSL hD
      go_upto_region 11 with (fail)
      simp only [Act.put, List.setIfInBounds_toArray]
      refine gen_act (Φ := fun a => (Code.region 11 _ true).wp Try.prog _ a _) _ ?_
      intro a0 ha0
      have z0 : a0.tmps.size = 100 := by rw [ha0]; rfl
      have z7 : a0.eval (.tmp 7) = .pointer (some ⟨S, 0, none⟩) := by rw [ha0]; rfl
      have z10 : a0.eval (.tmp 10) = .pointer (some ⟨B5, 0, none⟩) := by rw [ha0]; rfl
      have z11 : a0.eval (.tmp 11) = .slice B7 (m - 1) c7 := by rw [ha0]; rfl
      have HA0 := Lib.hid ha0
      clear ha0
      refine wp_region_inv (InvTA w R S L M rest n m kx mx px v (.slice B7 (m - 1) c7) a0) (by kernel_rfl) ?_ ?_ ?_
      · intro listed a W hI he
        have ha := all_done (md := .any) (hI.size.trans rfl) (by kernel_rfl) he
        obtain ⟨_, w8, K, A', B', C', H, _, _, _⟩ := hI.mem.got ⟨2, by decide, ha 2 (by show 2 < 18; decide)⟩
        have K9 := K.quiet H.wider
        obtain ⟨x55, h55⟩ : ∃ x, a.eval (.tmp 55) = x := ⟨_, rfl⟩
        obtain ⟨x56, h56⟩ : ∃ x, a.eval (.tmp 56) = x := ⟨_, rfl⟩
        obtain ⟨x57, h57⟩ : ∃ x, a.eval (.tmp 57) = x := ⟨_, rfl⟩
        obtain ⟨x59, h59⟩ : ∃ x, a.eval (.tmp 59) = x := ⟨_, rfl⟩
        obtain ⟨x61, h61⟩ : ∃ x, a.eval (.tmp 61) = x := ⟨_, rfl⟩
        obtain ⟨x62, h62⟩ : ∃ x, a.eval (.tmp 62) = x := ⟨_, rfl⟩
        obtain ⟨x63, h63⟩ : ∃ x, a.eval (.tmp 63) = x := ⟨_, rfl⟩
        have sl : SlotsAt a 49 [.pointer (some ⟨S, 0, none⟩), aggX kx mx px v, .int .i64 0, .bool false, .bool false, .pointer (some ⟨S, 0, none⟩), x55, x56, x57, .slice B7 (m - 1) c7, x59, aggX kx mx px v, x61, x62, x63, .bool true, .bool false, .bool false] :=
          .cons (hI.known_at (j := 0) (d := 49) (u := .pointer (some ⟨S, 0, none⟩)) (by simp [kvTA]) (ha 0 (by show 0 < 18; decide))) (
          .cons (hI.known_at (j := 1) (d := 50) (u := aggX kx mx px v) (by simp [kvTA]) (ha 1 (by show 1 < 18; decide))) (
          .cons (hI.known_at (j := 2) (d := 51) (u := .int .i64 0) (by simp [kvTA]) (ha 2 (by show 2 < 18; decide))) (
          .cons (hI.known_at (j := 3) (d := 52) (u := .bool false) (by simp [kvTA]) (ha 3 (by show 3 < 18; decide))) (
          .cons (hI.known_at (j := 4) (d := 53) (u := .bool false) (by simp [kvTA]) (ha 4 (by show 4 < 18; decide))) (
          .cons (hI.known_at (j := 5) (d := 54) (u := .pointer (some ⟨S, 0, none⟩)) (by simp [kvTA]) (ha 5 (by show 5 < 18; decide))) (
          .cons h55 (
          .cons h56 (
          .cons h57 (
          .cons (hI.known_at (j := 9) (d := 58) (u := .slice B7 (m - 1) c7) (by simp [kvTA]) (ha 9 (by show 9 < 18; decide))) (
          .cons h59 (
          .cons (hI.known_at (j := 11) (d := 60) (u := aggX kx mx px v) (by simp [kvTA]) (ha 11 (by show 11 < 18; decide))) (
          .cons h61 (
          .cons h62 (
          .cons h63 (
          .cons (hI.known_at (j := 15) (d := 64) (u := .bool true) (by simp [kvTA]) (ha 15 (by show 15 < 18; decide))) (
          .cons (hI.known_at (j := 16) (d := 65) (u := .bool false) (by simp [kvTA]) (ha 16 (by show 16 < 18; decide))) (
          .cons (hI.known_at (j := 17) (d := 66) (u := .bool false) (by simp [kvTA]) (ha 17 (by show 17 < 18; decide))) (
          .nil))))))))))))))))))
        have fr := (hI.stays.frameT (p := 49) HA0.out (by intro j hj; simp [dsTA] at hj; simp; omega) sl (by simp)).trans (act_lit (us := [_, _, _, _, _, _, _, _, _, _, _, _, _, _, _, _, _, _, _, _, _, _, _, _, _, _, _, _, _, _, _, _, _, _, _, _, _, _, _, _, _, _, _, _, _, _, _, _, _, _, _, _, _, _, _, _, _, _, _, _, _, _, _, _, _, _, _, _, _, _, _, _, _, _, _, _, _, _, _, _, _, _, _, _, _, _, _, _, _, _, _, _, _, _, _, _, _, _, _, _]) rfl)
        rw [fr]
        clear fr sl h55 h56 h57 h59 h61 h62 h63 ha hI he z0 z7 z10 z11 H K HA0
        have hR := HRR.out
        subst hR
        obtain ⟨y0, y1, y2, y3⟩ := K9.item (B := B5) (k := kx) (m := mx) (q := px) (v := v) ms1
        clear HR0 HR1 HRR HK7
        have HAD := Lib.hid (again_del HMM.out (by rw [← HRS.out]; exact again_no HFL.out HX.out))
        have hn9 : n + 1 < 99990 := by omega
        have hm9 : m - 1 < 100000 := by omega
        have HLI : Hid ((rest.length : Int) = (m : Int) - 1) := Lib.hid (by rw [HRL.out]; omega)
        go_upto_region 13 with (fail)
        go_upto_region 15 with (first
        | (go_at_call 17; ((with_reducible refine (sdel_o K9 hn9 hf2 hf3 HAD.out.1 HAD.out.2).mono ?_); rintro e w5 ⟨rfl, K10⟩; clear K9 y0 y1 y2 y3; obtain ⟨y0, y1, y2, y3⟩ := K10.item (B := B5) (k := kx) (m := mx) (q := px) (v := v) ms1))
        | (go_at_call 17; ((with_reducible refine (sdelno_o K10 hn9 hf2 hf3 (by rw [← HRS.out]; exact again_no HFL.out HX.out)).mono ?_); rintro e w6 ⟨rfl, K11⟩; clear K10 y0 y1 y2 y3)))
        go_wp2_with (first
        | (go_at_call 20; ((with_reducible refine (sall_o K11 hn9 HRL.out).mono ?_); rintro e w7 ⟨B8, c8, rfl, K12⟩; clear K11))
        | (go_at_call 25; ((with_reducible refine (splain_o K12 (.refl _) HRL.out hm9).mono ?_); rintro e w8 ⟨B9, c9, rfl, K13⟩; clear K12))
        | (go_at_call 25; ((with_reducible refine (splain_o K13 (.swap _ _ _) HRL.out hm9).mono ?_); rintro e w9 ⟨B10, c10, rfl, K14⟩; clear K13))
        | (go_at_call 24; ((with_reducible refine (ssame_o K14 ms1 ms0 HRL.out hm9).mono ?_); rintro e w10 ⟨rfl, K15⟩; clear K14))
        | (go_at_call 15; ((with_reducible refine (slen_o K15 HLI.out).mono ?_); rintro e w11 ⟨rfl, K16⟩; clear K15)))
        go_ret
        exact ⟨rfl, K16.wider⟩
      · intro listed a W i hI hi
        have hlt : i < 18 := by
          obtain ⟨_, o, ho, _⟩ := mem_ready.1 hi
          exact (Array.getElem?_eq_some_iff.1 ho).1
        have y7 := evalD ((hI.stays.2.2 7 (by decide)).trans z7)
        have y10 := evalD ((hI.stays.2.2 10 (by decide)).trans z10)
        have y11 := evalD ((hI.stays.2.2 11 (by decide)).trans z11)
        obtain ⟨b0, b1, b2, b3⟩ := hI.mem.cells HR1.out
        obtain rfl | rfl | rfl | rfl | rfl | rfl | rfl | rfl | rfl | rfl | rfl | rfl | rfl | rfl | rfl | rfl | rfl | rfl : i = 0 ∨ i = 1 ∨ i = 2 ∨ i = 3 ∨ i = 4 ∨ i = 5 ∨ i = 6 ∨ i = 7 ∨ i = 8 ∨ i = 9 ∨ i = 10 ∨ i = 11 ∨ i = 12 ∨ i = 13 ∨ i = 14 ∨ i = 15 ∨ i = 16 ∨ i = 17 := by omega
        · -- 0
          refine wpOp_of (o := _) rfl (wanted_plain rfl) (wp_k (hI.pure z0 (i := 0) (d := 49) (u := .pointer (some ⟨S, 0, none⟩)) (by simp [kvTA]) (by decide) (by decide) (by intro j e x h; simp only [kvTA, List.mem_cons, List.not_mem_nil, or_false, Prod.mk.injEq] at h; rcases h with ⟨rfl, rfl, rfl⟩ | ⟨rfl, rfl, rfl⟩ | ⟨rfl, rfl, rfl⟩ | ⟨rfl, rfl, rfl⟩ | ⟨rfl, rfl, rfl⟩ | ⟨rfl, rfl, rfl⟩ | ⟨rfl, rfl, rfl⟩ | ⟨rfl, rfl, rfl⟩ | ⟨rfl, rfl, rfl⟩ | ⟨rfl, rfl, rfl⟩ | ⟨rfl, rfl, rfl⟩ <;> simp) (by decide) (by decide) (fun h => absurd h (by decide))) ?_)
          intro K' hK'
          go_simp
          exact hK'
        · -- 1
          refine wpOp_of (o := _) rfl (wanted_plain rfl) (wp_k (hI.pure z0 (i := 1) (d := 50) (u := aggX kx mx px v) (by simp [kvTA]) (by decide) (by decide) (by intro j e x h; simp only [kvTA, List.mem_cons, List.not_mem_nil, or_false, Prod.mk.injEq] at h; rcases h with ⟨rfl, rfl, rfl⟩ | ⟨rfl, rfl, rfl⟩ | ⟨rfl, rfl, rfl⟩ | ⟨rfl, rfl, rfl⟩ | ⟨rfl, rfl, rfl⟩ | ⟨rfl, rfl, rfl⟩ | ⟨rfl, rfl, rfl⟩ | ⟨rfl, rfl, rfl⟩ | ⟨rfl, rfl, rfl⟩ | ⟨rfl, rfl, rfl⟩ | ⟨rfl, rfl, rfl⟩ <;> simp) (by decide) (by decide) (fun h => absurd h (by decide))) ?_)
          intro K' hK'
          go_simp
          exact hK'
        · -- 2
          have y49 := evalD (hI.known_at (j := 0) (d := 49) (u := .pointer (some ⟨S, 0, none⟩)) (by simp [kvTA]) (ready_pred hi rfl 0 (by rfl)))
          have y50 := evalD (hI.known_at (j := 1) (d := 50) (u := aggX kx mx px v) (by simp [kvTA]) (ready_pred hi rfl 1 (by rfl)))
          refine wpOp_of (o := _) rfl (wanted_plain rfl) ?_
          go_simp
          refine (hI.mem.put2 (ready_own hi) (by omega) hf1 hf2 hf3 hbut).mono ?_
          rintro e w' ⟨rfl, hm'⟩
          exact hI.step z0 (i := 2) (d := 51) (by decide) (by decide) (by intro j e x h; simp only [kvTA, List.mem_cons, List.not_mem_nil, or_false, Prod.mk.injEq] at h; rcases h with ⟨rfl, rfl, rfl⟩ | ⟨rfl, rfl, rfl⟩ | ⟨rfl, rfl, rfl⟩ | ⟨rfl, rfl, rfl⟩ | ⟨rfl, rfl, rfl⟩ | ⟨rfl, rfl, rfl⟩ | ⟨rfl, rfl, rfl⟩ | ⟨rfl, rfl, rfl⟩ | ⟨rfl, rfl, rfl⟩ | ⟨rfl, rfl, rfl⟩ | ⟨rfl, rfl, rfl⟩ <;> simp) (by decide) hm'
        · -- 3
          have y51 := evalD (hI.known_at (j := 2) (d := 51) (u := .int .i64 0) (by simp [kvTA]) (ready_pred hi rfl 2 (by rfl)))
          refine wpOp_of (o := _) rfl (wanted_plain rfl) (wp_k (hI.pure z0 (i := 3) (d := 52) (u := .bool false) (by simp [kvTA]) (by decide) (by decide) (by intro j e x h; simp only [kvTA, List.mem_cons, List.not_mem_nil, or_false, Prod.mk.injEq] at h; rcases h with ⟨rfl, rfl, rfl⟩ | ⟨rfl, rfl, rfl⟩ | ⟨rfl, rfl, rfl⟩ | ⟨rfl, rfl, rfl⟩ | ⟨rfl, rfl, rfl⟩ | ⟨rfl, rfl, rfl⟩ | ⟨rfl, rfl, rfl⟩ | ⟨rfl, rfl, rfl⟩ | ⟨rfl, rfl, rfl⟩ | ⟨rfl, rfl, rfl⟩ | ⟨rfl, rfl, rfl⟩ <;> simp) (by decide) (by decide) (fun _ => ⟨2, by decide, (ready_pred hi rfl 2 (by rfl))⟩)) ?_)
          intro K' hK'
          go_simp
          exact hK'
        · -- 4
          have y52 := evalD (hI.known_at (j := 3) (d := 52) (u := .bool false) (by simp [kvTA]) (ready_pred hi rfl 3 (by rfl)))
          refine wpOp_of (o := _) rfl (wanted_plain rfl) (wp_k (hI.pure z0 (i := 4) (d := 53) (u := .bool false) (by simp [kvTA]) (by decide) (by decide) (by intro j e x h; simp only [kvTA, List.mem_cons, List.not_mem_nil, or_false, Prod.mk.injEq] at h; rcases h with ⟨rfl, rfl, rfl⟩ | ⟨rfl, rfl, rfl⟩ | ⟨rfl, rfl, rfl⟩ | ⟨rfl, rfl, rfl⟩ | ⟨rfl, rfl, rfl⟩ | ⟨rfl, rfl, rfl⟩ | ⟨rfl, rfl, rfl⟩ | ⟨rfl, rfl, rfl⟩ | ⟨rfl, rfl, rfl⟩ | ⟨rfl, rfl, rfl⟩ | ⟨rfl, rfl, rfl⟩ <;> simp) (by decide) (by decide) (fun _ => ⟨3, by decide, (ready_pred hi rfl 3 (by rfl))⟩)) ?_)
          intro K' hK'
          go_simp
          exact hK'
        · -- 5
          have y53e := (hI.known_at (j := 4) (d := 53) (u := .bool false) (by simp [kvTA]) (ready_pred hi rfl 4 (by rfl)))
          refine wpOp_of (o := _) rfl (wanted_guard (g := 4) (d := 53) (og := _) (b := false) rfl rfl rfl y53e) (wp_k (hI.pure z0 (i := 5) (d := 54) (u := .pointer (some ⟨S, 0, none⟩)) (by simp [kvTA]) (by decide) (by decide) (by intro j e x h; simp only [kvTA, List.mem_cons, List.not_mem_nil, or_false, Prod.mk.injEq] at h; rcases h with ⟨rfl, rfl, rfl⟩ | ⟨rfl, rfl, rfl⟩ | ⟨rfl, rfl, rfl⟩ | ⟨rfl, rfl, rfl⟩ | ⟨rfl, rfl, rfl⟩ | ⟨rfl, rfl, rfl⟩ | ⟨rfl, rfl, rfl⟩ | ⟨rfl, rfl, rfl⟩ | ⟨rfl, rfl, rfl⟩ | ⟨rfl, rfl, rfl⟩ | ⟨rfl, rfl, rfl⟩ <;> simp) (by decide) (by decide) (fun _ => ⟨4, by decide, (ready_pred hi rfl 4 (by rfl))⟩)) ?_)
          have y53 := evalD y53e
          intro K' hK'
          go_simp
          exact hK'
        · -- 6
          have y53e := (hI.known_at (j := 4) (d := 53) (u := .bool false) (by simp [kvTA]) (ready_pred hi rfl 4 (by rfl)))
          have y54 := evalD (hI.known_at (j := 5) (d := 54) (u := .pointer (some ⟨S, 0, none⟩)) (by simp [kvTA]) (ready_pred hi rfl 5 (by rfl)))
          refine wpOp_of (o := _) rfl (wanted_guard (g := 4) (d := 53) (og := _) (b := false) rfl rfl rfl y53e) ?_
          go_simp
          refine (hI.mem.all6 ⟨4, by decide, (ready_pred hi rfl 4 (by rfl))⟩ (ready_own hi) (by omega) HML.out).mono ?_
          rintro e w' ⟨u, rfl, hm'⟩
          exact hI.step z0 (i := 6) (d := 55) (by decide) (by decide) (by intro j e x h; simp only [kvTA, List.mem_cons, List.not_mem_nil, or_false, Prod.mk.injEq] at h; rcases h with ⟨rfl, rfl, rfl⟩ | ⟨rfl, rfl, rfl⟩ | ⟨rfl, rfl, rfl⟩ | ⟨rfl, rfl, rfl⟩ | ⟨rfl, rfl, rfl⟩ | ⟨rfl, rfl, rfl⟩ | ⟨rfl, rfl, rfl⟩ | ⟨rfl, rfl, rfl⟩ | ⟨rfl, rfl, rfl⟩ | ⟨rfl, rfl, rfl⟩ | ⟨rfl, rfl, rfl⟩ <;> simp) (by decide) hm'
        · -- 7
          have y53e := (hI.known_at (j := 4) (d := 53) (u := .bool false) (by simp [kvTA]) (ready_pred hi rfl 4 (by rfl)))
          refine wpOp_of (o := _) rfl (wanted_guard (g := 4) (d := 53) (og := _) (b := false) rfl rfl rfl y53e) ?_
          go_simp
          refine (hI.mem.plain7 (ready_pred hi rfl 6 (by rfl)) (ready_own hi) HML.out (by omega) (evalD rfl).symm).mono ?_
          rintro e w' ⟨u, rfl, hm'⟩
          exact hI.step z0 (i := 7) (d := 56) (by decide) (by decide) (by intro j e x h; simp only [kvTA, List.mem_cons, List.not_mem_nil, or_false, Prod.mk.injEq] at h; rcases h with ⟨rfl, rfl, rfl⟩ | ⟨rfl, rfl, rfl⟩ | ⟨rfl, rfl, rfl⟩ | ⟨rfl, rfl, rfl⟩ | ⟨rfl, rfl, rfl⟩ | ⟨rfl, rfl, rfl⟩ | ⟨rfl, rfl, rfl⟩ | ⟨rfl, rfl, rfl⟩ | ⟨rfl, rfl, rfl⟩ | ⟨rfl, rfl, rfl⟩ | ⟨rfl, rfl, rfl⟩ <;> simp) (by decide) hm'
        · -- 8
          have y53e := (hI.known_at (j := 4) (d := 53) (u := .bool false) (by simp [kvTA]) (ready_pred hi rfl 4 (by rfl)))
          refine wpOp_of (o := _) rfl (wanted_guard (g := 4) (d := 53) (og := _) (b := false) rfl rfl rfl y53e) (wp_k (hI.step z0 (i := 8) (d := 57) (by decide) (by decide) (by intro j e x h; simp only [kvTA, List.mem_cons, List.not_mem_nil, or_false, Prod.mk.injEq] at h; rcases h with ⟨rfl, rfl, rfl⟩ | ⟨rfl, rfl, rfl⟩ | ⟨rfl, rfl, rfl⟩ | ⟨rfl, rfl, rfl⟩ | ⟨rfl, rfl, rfl⟩ | ⟨rfl, rfl, rfl⟩ | ⟨rfl, rfl, rfl⟩ | ⟨rfl, rfl, rfl⟩ | ⟨rfl, rfl, rfl⟩ | ⟨rfl, rfl, rfl⟩ | ⟨rfl, rfl, rfl⟩ <;> simp) (by decide) (hI.mem.make8 ⟨4, by decide, (ready_pred hi rfl 4 (by rfl))⟩ (ready_own hi))) ?_)
          intro K' hK'
          go_simp
          exact hK'
        · -- 9
          have y53e := (hI.known_at (j := 4) (d := 53) (u := .bool false) (by simp [kvTA]) (ready_pred hi rfl 4 (by rfl)))
          refine wpOp_of (o := _) rfl (wanted_guard (g := 4) (d := 53) (og := _) (b := false) rfl rfl rfl y53e) (wp_k (hI.pure z0 (i := 9) (d := 58) (u := .slice B7 (m - 1) c7) (by simp [kvTA]) (by decide) (by decide) (by intro j e x h; simp only [kvTA, List.mem_cons, List.not_mem_nil, or_false, Prod.mk.injEq] at h; rcases h with ⟨rfl, rfl, rfl⟩ | ⟨rfl, rfl, rfl⟩ | ⟨rfl, rfl, rfl⟩ | ⟨rfl, rfl, rfl⟩ | ⟨rfl, rfl, rfl⟩ | ⟨rfl, rfl, rfl⟩ | ⟨rfl, rfl, rfl⟩ | ⟨rfl, rfl, rfl⟩ | ⟨rfl, rfl, rfl⟩ | ⟨rfl, rfl, rfl⟩ | ⟨rfl, rfl, rfl⟩ <;> simp) (by decide) (by decide) (fun _ => ⟨4, by decide, (ready_pred hi rfl 4 (by rfl))⟩)) ?_)
          have y53 := evalD y53e
          intro K' hK'
          go_simp
          exact hK'
        · -- 10
          have y53e := (hI.known_at (j := 4) (d := 53) (u := .bool false) (by simp [kvTA]) (ready_pred hi rfl 4 (by rfl)))
          refine wpOp_of (o := _) rfl (wanted_guard (g := 4) (d := 53) (og := _) (b := false) rfl rfl rfl y53e) (hI.mem.app10 rfl (ready_pred hi rfl 8 (by rfl)) (ready_own hi) (hI.known_at (j := 9) (d := 58) (u := .slice B7 (m - 1) c7) (by simp [kvTA]) (ready_pred hi rfl 9 (by rfl))) HR0.out HRL.out (by omega) ?_)
          intro u w' hm'
          exact hI.step z0 (i := 10) (d := 59) (by decide) (by decide) (by intro j e x h; simp only [kvTA, List.mem_cons, List.not_mem_nil, or_false, Prod.mk.injEq] at h; rcases h with ⟨rfl, rfl, rfl⟩ | ⟨rfl, rfl, rfl⟩ | ⟨rfl, rfl, rfl⟩ | ⟨rfl, rfl, rfl⟩ | ⟨rfl, rfl, rfl⟩ | ⟨rfl, rfl, rfl⟩ | ⟨rfl, rfl, rfl⟩ | ⟨rfl, rfl, rfl⟩ | ⟨rfl, rfl, rfl⟩ | ⟨rfl, rfl, rfl⟩ | ⟨rfl, rfl, rfl⟩ <;> simp) (by decide) hm'
        · -- 11
          have y53e := (hI.known_at (j := 4) (d := 53) (u := .bool false) (by simp [kvTA]) (ready_pred hi rfl 4 (by rfl)))
          refine wpOp_of (o := _) rfl (wanted_guard (g := 4) (d := 53) (og := _) (b := false) rfl rfl rfl y53e) (wp_k (hI.pure z0 (i := 11) (d := 60) (u := aggX kx mx px v) (by simp [kvTA]) (by decide) (by decide) (by intro j e x h; simp only [kvTA, List.mem_cons, List.not_mem_nil, or_false, Prod.mk.injEq] at h; rcases h with ⟨rfl, rfl, rfl⟩ | ⟨rfl, rfl, rfl⟩ | ⟨rfl, rfl, rfl⟩ | ⟨rfl, rfl, rfl⟩ | ⟨rfl, rfl, rfl⟩ | ⟨rfl, rfl, rfl⟩ | ⟨rfl, rfl, rfl⟩ | ⟨rfl, rfl, rfl⟩ | ⟨rfl, rfl, rfl⟩ | ⟨rfl, rfl, rfl⟩ | ⟨rfl, rfl, rfl⟩ <;> simp) (by decide) (by decide) (fun _ => ⟨4, by decide, (ready_pred hi rfl 4 (by rfl))⟩)) ?_)
          have y53 := evalD y53e
          intro K' hK'
          go_simp
          exact hK'
        · -- 12
          have y53e := (hI.known_at (j := 4) (d := 53) (u := .bool false) (by simp [kvTA]) (ready_pred hi rfl 4 (by rfl)))
          have y60 := evalD (hI.known_at (j := 11) (d := 60) (u := aggX kx mx px v) (by simp [kvTA]) (ready_pred hi rfl 11 (by rfl)))
          refine wpOp_of (o := _) rfl (wanted_guard (g := 4) (d := 53) (og := _) (b := false) rfl rfl rfl y53e) (wp_k (hI.step z0 (i := 12) (d := 61) (by decide) (by decide) (by intro j e x h; simp only [kvTA, List.mem_cons, List.not_mem_nil, or_false, Prod.mk.injEq] at h; rcases h with ⟨rfl, rfl, rfl⟩ | ⟨rfl, rfl, rfl⟩ | ⟨rfl, rfl, rfl⟩ | ⟨rfl, rfl, rfl⟩ | ⟨rfl, rfl, rfl⟩ | ⟨rfl, rfl, rfl⟩ | ⟨rfl, rfl, rfl⟩ | ⟨rfl, rfl, rfl⟩ | ⟨rfl, rfl, rfl⟩ | ⟨rfl, rfl, rfl⟩ | ⟨rfl, rfl, rfl⟩ <;> simp) (by decide) (hI.mem.make12 ⟨4, by decide, (ready_pred hi rfl 4 (by rfl))⟩ (ready_own hi))) ?_)
          intro K' hK'
          go_simp
          exact hK'
        · -- 13
          have y53e := (hI.known_at (j := 4) (d := 53) (u := .bool false) (by simp [kvTA]) (ready_pred hi rfl 4 (by rfl)))
          refine wpOp_of (o := _) rfl (wanted_guard (g := 4) (d := 53) (og := _) (b := false) rfl rfl rfl y53e) (hI.mem.app13 rfl (ready_pred hi rfl 10 (by rfl)) (ready_pred hi rfl 12 (by rfl)) (ready_own hi) (by omega) (by omega) HMM.out ?_)
          intro u w' hm'
          exact hI.step z0 (i := 13) (d := 62) (by decide) (by decide) (by intro j e x h; simp only [kvTA, List.mem_cons, List.not_mem_nil, or_false, Prod.mk.injEq] at h; rcases h with ⟨rfl, rfl, rfl⟩ | ⟨rfl, rfl, rfl⟩ | ⟨rfl, rfl, rfl⟩ | ⟨rfl, rfl, rfl⟩ | ⟨rfl, rfl, rfl⟩ | ⟨rfl, rfl, rfl⟩ | ⟨rfl, rfl, rfl⟩ | ⟨rfl, rfl, rfl⟩ | ⟨rfl, rfl, rfl⟩ | ⟨rfl, rfl, rfl⟩ | ⟨rfl, rfl, rfl⟩ <;> simp) (by decide) hm'
        · -- 14
          have y53e := (hI.known_at (j := 4) (d := 53) (u := .bool false) (by simp [kvTA]) (ready_pred hi rfl 4 (by rfl)))
          refine wpOp_of (o := _) rfl (wanted_guard (g := 4) (d := 53) (og := _) (b := false) rfl rfl rfl y53e) ?_
          go_simp
          refine (hI.mem.plain14 (ready_pred hi rfl 13 (by rfl)) (ready_own hi) HML.out (by omega) (evalD rfl).symm).mono ?_
          rintro e w' ⟨u, rfl, hm'⟩
          exact hI.step z0 (i := 14) (d := 63) (by decide) (by decide) (by intro j e x h; simp only [kvTA, List.mem_cons, List.not_mem_nil, or_false, Prod.mk.injEq] at h; rcases h with ⟨rfl, rfl, rfl⟩ | ⟨rfl, rfl, rfl⟩ | ⟨rfl, rfl, rfl⟩ | ⟨rfl, rfl, rfl⟩ | ⟨rfl, rfl, rfl⟩ | ⟨rfl, rfl, rfl⟩ | ⟨rfl, rfl, rfl⟩ | ⟨rfl, rfl, rfl⟩ | ⟨rfl, rfl, rfl⟩ | ⟨rfl, rfl, rfl⟩ | ⟨rfl, rfl, rfl⟩ <;> simp) (by decide) hm'
        · -- 15
          have y53e := (hI.known_at (j := 4) (d := 53) (u := .bool false) (by simp [kvTA]) (ready_pred hi rfl 4 (by rfl)))
          refine wpOp_of (o := _) rfl (wanted_guard (g := 4) (d := 53) (og := _) (b := false) rfl rfl rfl y53e) ?_
          go_simp
          refine (hI.mem.same15 (ready_pred hi rfl 7 (by rfl)) (ready_pred hi rfl 14 (by rfl)) HML.out (by omega) (evalD rfl).symm (evalD rfl).symm).mono ?_
          rintro e w' ⟨rfl, hm'⟩
          exact hI.step z0 (i := 15) (d := 64) (by decide) (by decide) (by intro j e x h; simp only [kvTA, List.mem_cons, List.not_mem_nil, or_false, Prod.mk.injEq] at h; rcases h with ⟨rfl, rfl, rfl⟩ | ⟨rfl, rfl, rfl⟩ | ⟨rfl, rfl, rfl⟩ | ⟨rfl, rfl, rfl⟩ | ⟨rfl, rfl, rfl⟩ | ⟨rfl, rfl, rfl⟩ | ⟨rfl, rfl, rfl⟩ | ⟨rfl, rfl, rfl⟩ | ⟨rfl, rfl, rfl⟩ | ⟨rfl, rfl, rfl⟩ | ⟨rfl, rfl, rfl⟩ <;> simp) (by decide) (fun b' s' hb _ hs _ => hm' b' s' hb hs)
        · -- 16
          have y53e := (hI.known_at (j := 4) (d := 53) (u := .bool false) (by simp [kvTA]) (ready_pred hi rfl 4 (by rfl)))
          have y64 := evalD (hI.known_at (j := 15) (d := 64) (u := .bool true) (by simp [kvTA]) (ready_pred hi rfl 15 (by rfl)))
          refine wpOp_of (o := _) rfl (wanted_guard (g := 4) (d := 53) (og := _) (b := false) rfl rfl rfl y53e) (wp_k (hI.pure z0 (i := 16) (d := 65) (u := .bool false) (by simp [kvTA]) (by decide) (by decide) (by intro j e x h; simp only [kvTA, List.mem_cons, List.not_mem_nil, or_false, Prod.mk.injEq] at h; rcases h with ⟨rfl, rfl, rfl⟩ | ⟨rfl, rfl, rfl⟩ | ⟨rfl, rfl, rfl⟩ | ⟨rfl, rfl, rfl⟩ | ⟨rfl, rfl, rfl⟩ | ⟨rfl, rfl, rfl⟩ | ⟨rfl, rfl, rfl⟩ | ⟨rfl, rfl, rfl⟩ | ⟨rfl, rfl, rfl⟩ | ⟨rfl, rfl, rfl⟩ | ⟨rfl, rfl, rfl⟩ <;> simp) (by decide) (by decide) (fun _ => ⟨4, by decide, (ready_pred hi rfl 4 (by rfl))⟩)) ?_)
          have y53 := evalD y53e
          intro K' hK'
          go_simp
          exact hK'
        · -- 17
          have y65 := evalD (hI.known_at (j := 16) (d := 65) (u := .bool false) (by simp [kvTA]) (ready_pred hi rfl 16 (by rfl)))
          have y53 := evalD (hI.known_at (j := 4) (d := 53) (u := .bool false) (by simp [kvTA]) (ready_pred hi rfl 4 (by rfl)))
          refine wpOp_of (o := _) rfl (wanted_plain rfl) (wp_k (hI.pure z0 (i := 17) (d := 66) (u := .bool false) (by simp [kvTA]) (by decide) (by decide) (by intro j e x h; simp only [kvTA, List.mem_cons, List.not_mem_nil, or_false, Prod.mk.injEq] at h; rcases h with ⟨rfl, rfl, rfl⟩ | ⟨rfl, rfl, rfl⟩ | ⟨rfl, rfl, rfl⟩ | ⟨rfl, rfl, rfl⟩ | ⟨rfl, rfl, rfl⟩ | ⟨rfl, rfl, rfl⟩ | ⟨rfl, rfl, rfl⟩ | ⟨rfl, rfl, rfl⟩ | ⟨rfl, rfl, rfl⟩ | ⟨rfl, rfl, rfl⟩ | ⟨rfl, rfl, rfl⟩ <;> simp) (by decide) (by decide) (fun _ => ⟨4, by decide, (ready_pred hi rfl 4 (by rfl))⟩)) ?_)
          intro K' hK'
          go_simp
          exact hK'
      · exact ⟨by simp, .refl _ _, fun j d u _ hl => absurd hl (by rw [Array.getD_eq_getD_getElem?]; simp [Array.getElem?_replicate]; split <;> simp), .before (fun j _ => by rw [Array.getD_eq_getD_getElem?]; simp [Array.getElem?_replicate]; split <;> simp) (HK7.out.quiet (Wider.refl _).drew)⟩
set_option maxRecDepth 100000 in
theorem ternAgain_lifted (os : Os) (started : os.Started) (H : Type) (enc : TypeId × Value → H) :
    ReturnsInHanded {} Try.checked os 8 .any (Rows.ternAgainSpec.pre6 enc Try.prog Try.f8 Rows.ternAgainRow.domain false) (Rows.ternAgainSpec.post enc Try.prog Try.f8 false true false false) := by
  refine returnsInHanded_of_change (C := Try.checked) own started (by kernel_rfl) Try.func8
    (ChangeSpec.witness6 (enc := enc) (C := Try.checked) false ⟨#[], #[.slice none 0 0, .int .i64 0, .int .i64 0], []⟩ 8 (by kernel_rfl) (by kernel_rfl) (by kernel_rfl) (by kernel_rfl)) ?_
  intro W base args ds gs before hval0 hW hcnd _
  have hval : ∀ (j : Nat) t v, Try.f8.params[j]? = some t → args[j]? = some v → Value.okWide Try.prog W .any base t v := hval0
  have hW' := hW
  obtain ⟨p, q, hA0, hV, rfl, hfz, hnd⟩ := hW
  have hA : DataW.TrodAll enc Try.prog W 0 (fun _ => true) true Try.f8.params.toList args.toList ds p := hA0
  rw [Try.params8] at hA hval
  obtain ⟨v0, vs0, d0, ds0, p0, q0, hargs, rfl, rfl, h0, r0⟩ := trodAll_cons hA
  obtain ⟨v1, vs1, d1, ds1, p1, q1, rfl, rfl, rfl, h1, r1⟩ := trodAll_cons r0
  obtain ⟨v2, vs2, d2, ds2, p2, q2, rfl, rfl, rfl, h2, r2⟩ := trodAll_cons r1
  obtain ⟨rfl, rfl, rfl⟩ := trodAll_nil r2
  obtain rfl : args = #[v0, v1, v2] := by cases args; simp_all
  obtain ⟨rfl, rfl⟩ := trodVars_none hV
  have h0k := h0
  obtain ⟨A0, len0, cap0, rfl⟩ := okWide_slice Try.underlying40 (hval 0 40 v0 rfl rfl)
  obtain ⟨fuel0, hf0⟩ := h0
  obtain ⟨l0, hl0, ha0, hm0, hz0⟩ := open_actsU hf0
  obtain ⟨n1, rfl, rfl, rfl, w1⟩ := open_int Try.underlying3 (hval 1 3 v1 rfl rfl) h1
  obtain ⟨n2, rfl, rfl, rfl, w2⟩ := open_int Try.underlying3 (hval 2 3 v2 rfl rfl) h2
  clear hA0 hval0
  simp only [List.append_nil] at hW'
  refine (ternAgain_walk W A0 len0 cap0 l0 hl0 ha0 hm0 hz0 n1 (bounds_i64 w1).1 (bounds_i64 w1).2 n2 (bounds_i64 w2).1 (bounds_i64 w2).2).mono fun e W' ⟨he, hg⟩ => ?_
  subst he
  have hlt : ∀ x ∈ p0, x.block < W.heap.size := fun x hx => by simpa using hW'.lt x hx
  exact ⟨_, rfl, post_of_wider (pv := []) hW' (fun _ _ _ => (trodAll_cons_mk (shut_bool Try.underlying4 _) trodAll_mk0)) (fun sp hsp => (trodAll_cons_mk (WideElems.Trod_stays laid3 (by kernel_rfl) (of_decide_eq_true (by kernel_rfl)) h0k (fun x hx => wsame hg (hlt x (by simp [hx]))) (fun x hx => hsp x (by simp [hx]))) (trodAll_cons_mk (shut_int Try.underlying3 w1) (trodAll_cons_mk (shut_int Try.underlying3 w2) trodAll_mk0)))) (fun _ _ => rfl) (by simp)
    hg (ok_one (by kernel_rfl) rfl (okWide_bool_mk Try.underlying4 _))⟩

theorem ternAgain_holds : Rows.TernAgainSaid :=
  OpenClaim.holds_of_wide 8 Try.f8 rfl rfl rfl rfl rfl rfl rfl ⟨rfl, rfl, rfl, rfl, rfl⟩ rfl rfl rfl rfl rfl (by kernel_rfl) Try.func8 (by kernel_rfl)
    (of_decide_eq_true (by kernel_rfl)) (by unfold Func.isWrapper; first | (rw [if_pos (by decide +kernel)]; kernel_rfl) | (rw [if_neg (by decide +kernel)]; exact ⟨rfl, rfl⟩))
    (fun os started H enc _ => ternAgain_lifted os started H enc)

#print axioms ternAgain_holds

end Go.Proofs.Ytjjgdnaejeejlaa
