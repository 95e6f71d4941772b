/- The document's List and its numbers of layer 6: by walks. -/
import Derived.Test.YtemfionibnlniaaTRefB
import Derived.WalkKit
import Derived.Lib.Hide
import Derived.Deep.DeepCutAuto
import Derived.WalkLawsBesides
import Derived.WalkSpells
import Derived.BigQuiet
import Derived.BigRegion
import Derived.Deep.RegionHeld3
namespace Go.Proofs.Ytemfionibnlniaa
set_option linter.unusedVariables false
open Go.ChangeShapes Go.WideShapes Go.ChangeAt Go.RowKit Go.Joins
open Go.ChangeMaps (open_string shut_string)


theorem keepW1 {V W w : World} {a : Addr} {u : Value} (h : W.cell? a = some u ∧ Hid (Wider V W)) (g : Wider W w) : w.cell? a = some u ∧ Hid (Wider V w) := ⟨wkeep g h.1, htrans h.2 g⟩
set_option maxHeartbeats 8000000 in
theorem rlist_c (A : Option Addr) (n cap : Nat) (l : List ByteArray) (w : World) (h : StrsAt w A l) (hn : l.length = n) (hl : n < 1000000) (hb : (bytsT l).length < 1000000) {T : ByteArray} {r : Nat} (hT : encT l = T) (hr : okT l = r) :
    Calls Try.prog 27 #[.slice A n cap] w fun e w' => e = .returned (.tuple #[.string T, .int .i64 (r : Int)]) ∧ Wider w w' := by
  have HN := Lib.hid hn
  have HT := Lib.hid hT
  have HR := Lib.hid hr
  have HB := Lib.hid hb
  clear hn hT hr hb
  go_enter Try.func27, Try.ntmps27
  go_wp2
  go_loopw [4, 5] (fun v i wr => ∃ k : Nat, k ≤ n ∧ i = .int .i64 (k : Int) ∧ (∃ S : ByteArray, v = .string S ∧ mkB (bytsT (l.take k)) = S) ∧ okT (l.take k) = 0 ∧ Wider w wr) (fun _ i _ => n - (intOf i).toNat)
  case atStart => exact ⟨0, by omega, by simp, ⟨⟨#[]⟩, rfl, rfl⟩, rfl, Wider.refl w⟩
  case round =>
    obtain ⟨k, hk, rfl, ⟨S, rfl, hS⟩, hok, hg⟩ := hrel
    have HS := Lib.hid hS
    have HOK := Lib.hid hok
    have HG := Lib.hid hg
    clear hS hok
    by_cases c : k < n
    · have j0 : (0 : Int) ≤ (k : Int) := by omega
      have j1 : (k : Int) < (n : Int) := by omega
      obtain ⟨s, hx⟩ := next_some l k (by have := HN.out; omega)
      cases A with
      | none => exact absurd (h.none_ rfl) (by intro e; rw [e] at hx; simp at hx)
      | some a =>
        have SN2 := okT_snoc (l.take k) s HOK.out
        have TK := Lib.hid (take_next l k s hx)
        rw [← TK.out] at SN2
        have c0 := wkeep hg (h.cell a rfl k s hx)
        clear hx hg
        by_cases z : 65535 < s.size
        · rw [if_pos z] at SN2
          have R3 := okT_upto l (k + 1) SN2 (by decide)
          have e1 : r = 5 := by rw [← HR.out, R3]
          have e2 : T = ⟨#[]⟩ := by rw [← HT.out, encT_bad R3 (by decide)]
          subst e1 e2
          have z1 : decide ((65535 : Int) < (s.size : Int)) = true := decide_eq_true (by omega)
          have z2 : decide (65535 < s.size) = true := decide_eq_true z
          clear SN2 R3
          go_wp2
          go_ret2
          exact ⟨rfl, HG.out⟩
        · rw [if_neg z] at SN2
          have SN3 := Lib.hid SN2
          have z1 : decide ((65535 : Int) < (s.size : Int)) = false := decide_eq_false (by omega)
          have z2 : decide (65535 < s.size) = false := decide_eq_false z
          have hz : s.size < 65536 := by omega
          obtain ⟨B2, hB2⟩ : ∃ B2, mkB (bytsT (l.take (k + 1))) = B2 := ⟨_, rfl⟩
          have hlen : (bytsT (l.take (k + 1))).length < 1000000 := by
            have := HB.out
            have e : bytsT l = bytsT (l.take (k + 1)) ++ bytsT (l.drop (k + 1)) := by rw [← bytsT_append, List.take_append_drop]
            rw [e, List.length_append] at this
            omega
          have e3 : bytsT (l.take (k + 1)) = bytsT (l.take k) ++ bytT s := by rw [TK.out, bytsT_snoc]
          have hla : (bytT s).length = 2 + s.size := bytT_length _
          have hS3 : S.size = (bytsT (l.take k)).length := by rw [← HS.out, mkB_size]
          rw [e3, List.length_append, hla, ← hS3] at hlen
          have hX : S ++ mkB (wordB s.size) ++ s = B2 := by rw [← HS.out, bytT_text, ← e3, hB2]
          have y2 : (mkB (wordB s.size)).size = 2 := by rw [mkB_size]; rfl
          obtain ⟨Y2, hY2⟩ : ∃ Y, mkB (wordB s.size) = Y := ⟨_, rfl⟩
          have z3 := fun W : World => rtwo_c s.size hz W
          rw [hY2] at hX y2 z3
          have ha2 : ∀ W : World, (Op.stringOp .add S Y2).run Try.prog W = .ok (.string (S ++ Y2)) W := fun W => run_string_add_sum W _ _ (by omega)
          have ha3 : ∀ W : World, (Op.stringOp .add (S ++ Y2) s).run Try.prog W = .ok (.string B2) W := fun W => by rw [run_string_add_sum W _ _ (by rw [ByteArray.size_append]; omega), hX]
          have HB2 := Lib.hid hB2
          clear hX hY2 hlen hla hS3 e3 y2 hB2 SN2
          go_upto_region 7 with fail
          go_region_held (fun w' => w'.cell? (a.add k) = some (.string s) ∧ Hid (Wider w w'))
            (first | assumption | exact ⟨c0, HG⟩ | exact keepW1 (by assumption) (by assumption))
            (first
              | (go_at_call 33; ((with_reducible refine (z3 _).mono ?_); rintro e w' ⟨rfl, g'⟩)))
          all_goals
            (with_reducible have HE := Lib.hid (by assumption : _ ∧ Hid (Wider w _)))
            go_wp2
            go_roundw
            case rel => exact ⟨k + 1, by omega, by go_num, ⟨B2, rfl, HB2.out⟩, SN3.out, HE.out.2.out⟩
            case measure => simp [intOf]; omega
    · obtain rfl : k = n := by omega
      have e := HS.out
      have e0 := HOK.out
      rw [List.take_of_length_le (by have := HN.out; omega)] at e e0
      have e1 : r = 0 := by rw [← HR.out, e0]
      have e2 : T = S := by rw [← HT.out, encT_good e0, e]
      subst e1 e2
      clear e e0
      go_wp2
      go_ret2
      exact ⟨rfl, hg⟩

theorem numB_small (n : Nat) (h : n < 18446744073709551616) : (numB n).length < 1000000 := by have := numB_len n h; omega
set_option maxHeartbeats 4000000 in
theorem rnum_c (n : Nat) (w : World) (h : n < 18446744073709551616) {T : ByteArray} (hT : mkB (numB n) = T) :
    Calls Try.prog 24 #[.int .u64 (n : Int)] w fun e w' => e = .returned (.string T) ∧ Wider w w' := by
  induction n using Nat.strongRecOn generalizing w T with
  | ind n ih =>
    by_cases z : n = 0
    · subst z
      rw [numB_0] at hT
      subst hT
      clear ih
      go_enter Try.func24, Try.ntmps24
      go_wp2
      go_ret
      exact ⟨rfl, Wider.refl w⟩
    · have e0 : ((n : Int) == 0) = false := by rw [beq_eq_false_iff_ne]; omega
      obtain ⟨Y1, hY1⟩ : ∃ Y, mkB (numB (n / 256)) = Y := ⟨_, rfl⟩
      obtain ⟨Y2, hY2⟩ : ∃ Y, mkB [UInt8.ofNat (n % 256)] = Y := ⟨_, rfl⟩
      have z3 := fun W : World => ih (n / 256) (by omega) W (by omega) hY1
      rw [show ((n / 256 : Nat) : Int) = (n : Int) / 256 by omega] at z3
      have hcv := fun (W : World) (B : Nat) (h : W.cell? ⟨B, 0, none⟩ = some (.int .u8 ((n % 256 : Nat) : Int))) => conv1 (n % 256) W B h
      rw [hY2, show ((n % 256 : Nat) : Int) = (n : Int) % 256 by omega] at hcv
      have hX : Y1 ++ Y2 = T := by
        rw [← hY1, ← hY2, mkB_append, ← hT, numB_pos n z]
      have l1 : Y1.size ≤ 8 := by rw [← hY1, mkB_size]; exact numB_len _ (by omega)
      have l2 : Y2.size = 1 := by rw [← hY2, mkB_size]; rfl
      have ha : ∀ W : World, (Op.stringOp .add Y1 Y2).run Try.prog W = .ok (.string T) W := fun W => by rw [run_string_add_sum W _ _ (by omega), hX]
      have m0 : (0 : Int) ≤ (n : Int) := by omega
      have m2 : (n : Int).tdiv 256 = (n : Int) / 256 := by rw [Int.tdiv_eq_ediv_of_nonneg m0]
      have m3 : (n : Int).tmod 256 = (n : Int) % 256 := by rw [Int.tmod_eq_emod_of_nonneg m0]
      have m4 : IntKind.u64.wrap ((n : Int) / 256) = (n : Int) / 256 := by rw [IntKind.wrap_u64]; omega
      have m5 : IntKind.u64.wrap ((n : Int) % 256) = (n : Int) % 256 := by rw [IntKind.wrap_u64]; omega
      have m6 : IntKind.u8.wrap ((n : Int) % 256) = (n : Int) % 256 := by simp [IntKind.wrap, IntKind.bits, IntKind.signed]
      clear ih hX l1 l2 hY1 hY2 hT
      go_enter Try.func24, Try.ntmps24
      go_upto_region 3 with fail
      have G : Hid (Wider w w) := Wider.refl w
      go_region_held (fun w' => Hid (Wider w w'))
        (first | assumption | exact G | exact halloc2 (by assumption) _ | exact htrans (by assumption) (by assumption))
        (first
          | (go_at_call 24; ((with_reducible refine (z3 _).mono ?_); rintro e w' ⟨rfl, g'⟩; (try (have q0 := wkeep g' (new1 w (.int .u8 ((n : Int) % 256)) 5))))))
      all_goals
        (with_reducible have HE := (by assumption : Hid (Wider w _)))
        go_wp2
        go_ret
        exact ⟨rfl, HE.out⟩

theorem btake_next (s : ByteArray) (k : Nat) (h : k < s.size) : s.data.toList.take (k + 1) = s.data.toList.take k ++ [s[k]] := by
  rw [List.take_succ_eq_append_getElem (by rw [← size_data]; exact h)]; rfl
theorem readB_bound (l : List UInt8) (h : l.length ≤ 8) : readB l < 18446744073709551616 := by
  have h1 := readB_lt l
  have h2 : 256 ^ l.length ≤ 256 ^ 8 := Nat.pow_le_pow_right (by decide) h
  have h3 : (256 : Nat) ^ 8 = 18446744073709551616 := by decide
  omega
set_option maxHeartbeats 4000000 in
theorem rreadnum_c (s : ByteArray) (most : Nat) (w : World) (hs : s.size < 1152921504606846976) (hm : most < 18446744073709551616) {v r : Nat} (hr : rnumN s.data.toList most = (v, r)) :
    Calls Try.prog 22 #[.string s, .int .u64 (most : Int)] w fun e w' => e = .returned (.tuple #[.int .u64 (v : Int), .int .i64 (r : Int)]) ∧ Wider w w' := by
  unfold rnumN at hr
  by_cases c8 : 8 < s.size
  · rw [if_pos (.inl (by rw [← size_data]; exact c8))] at hr
    obtain ⟨rfl, rfl⟩ : 0 = v ∧ 3 = r := by injection hr with a b; exact ⟨a, b⟩
    have d1 : decide ((8 : Int) < (s.size : Int)) = true := decide_eq_true (by omega)
    have d2 : decide (8 < s.size) = true := decide_eq_true c8
    go_enter Try.func22, Try.ntmps22
    go_wp2
    go_ret2
    exact ⟨rfl, Wider.refl w⟩
  · have d1 : decide ((8 : Int) < (s.size : Int)) = false := decide_eq_false (by omega)
    have d2 : decide (8 < s.size) = false := decide_eq_false c8
    have HRN : Hid (readB s.data.toList < 18446744073709551616) := readB_bound _ (by rw [← size_data]; omega)
    by_cases z0 : s.data.toList.head? = some 0
    · rw [if_pos (.inr z0)] at hr
      obtain ⟨rfl, rfl⟩ : 0 = v ∧ 3 = r := by injection hr with a b; exact ⟨a, b⟩
      have sz : s.size ≠ 0 := by
        intro e
        have e2 : s.data.toList = [] := List.eq_nil_of_length_eq_zero (by rw [← size_data]; exact e)
        rw [e2] at z0; cases z0
      have s1 := ne_empty s sz
      have s2 := s1.1
      have s3 := s1.2
      have i0 : (0 : Int) < (s.size : Int) := by omega
      have g0 : 0 < s.size := by omega
      have e0 : s[0].toNat = 0 := by
        rw [List.head?_eq_getElem?] at z0
        have : s.data.toList[0]'(by rw [← size_data]; exact g0) = 0 := (List.getElem?_eq_some_iff.1 z0).2
        have e : s[0] = 0 := this
        rw [e]; rfl
      clear s1 sz z0 HRN
      go_enter Try.func22, Try.ntmps22
      go_wp2
      go_ret2
      exact ⟨rfl, Wider.refl w⟩
    · rw [if_neg (by rintro (h | h); (rw [← size_data] at h; omega); exact z0 h)] at hr
      by_cases sz : s.size = 0
      · have t0 : s.data.toList = [] := List.eq_nil_of_length_eq_zero (by rw [← size_data]; exact sz)
        have s2 : s.toList.isEmpty = true := by rw [ByteArray.toList_eq, t0]; rfl
        have s3 : s.toList = [] := by rw [ByteArray.toList_eq, t0]
        have SZ := Lib.hid sz
        clear sz t0
        go_enter Try.func22, Try.ntmps22
        go_wp2
        go_loop [6, 7] (fun v i => ∃ k : Nat, k ≤ s.size ∧ i = .int .i64 (k : Int) ∧ ∃ V : Nat, v = .int .u64 (V : Int) ∧ readB (s.data.toList.take k) = V) (fun _ i => s.size - (intOf i).toNat)
        case atStart => exact ⟨0, by omega, by simp, 0, by simp, by simp [readB]⟩
        case round =>
          obtain ⟨k, hk, rfl, V, rfl, hV⟩ := hrel
          have HV := Lib.hid hV
          clear hV
          by_cases c : k < s.size
          · have i0 : (0 : Int) ≤ (k : Int) := by omega
            have i1 : (k : Int) < (s.size : Int) := by omega
            have st : readB (s.data.toList.take (k + 1)) = V * 256 + s[k].toNat := by
              rw [btake_next s k c, readB_snoc, HV.out]
            have bd : readB (s.data.toList.take (k + 1)) < 18446744073709551616 := readB_bound _ (by rw [List.length_take, ← size_data]; omega)
            rw [st] at bd
            have l1 : V * 256 + s[k].toNat < 18446744073709551616 := bd
            have l2 : (V : Int) * 256 < 18446744073709551616 := by omega
            have w1 : IntKind.u64.wrap ((V : Int) * 256) = (V : Int) * 256 := by rw [IntKind.wrap_u64]; omega
            have w2 : IntKind.u64.wrap ((V : Int) * 256 + (s[k].toNat : Int)) = (V : Int) * 256 + (s[k].toNat : Int) := by rw [IntKind.wrap_u64]; omega
            have ST := Lib.hid st
            clear st bd
            go_wp2
            go_round
            case rel => exact ⟨k + 1, by omega, by go_num, V * 256 + s[k].toNat, by simp, ST.out⟩
            case measure => simp [intOf]; omega
          · obtain rfl : k = s.size := by omega
            have e := HV.out
            rw [List.take_of_length_le (by rw [size_data]; exact Nat.le_refl _)] at e
            rw [e] at hr
            by_cases z : most < V
            · rw [if_pos z] at hr
              obtain ⟨rfl, rfl⟩ : 0 = v ∧ 3 = r := by injection hr with a b; exact ⟨a, b⟩
              have f1 : decide ((most : Int) < (V : Int)) = true := decide_eq_true (by omega)
              have f2 : decide (most < V) = true := decide_eq_true z
              clear e HV HRN
              go_wp2
              go_ret2
              exact ⟨rfl, Wider.refl w⟩
            · rw [if_neg z] at hr
              obtain ⟨rfl, rfl⟩ : V = v ∧ 0 = r := by injection hr with a b; exact ⟨a, b⟩
              have f1 : decide ((most : Int) < (V : Int)) = false := decide_eq_false (by omega)
              have f2 : decide (most < V) = false := decide_eq_false z
              clear e HV HRN
              go_wp2
              go_ret2
              exact ⟨rfl, Wider.refl w⟩
      · have s1 := ne_empty s sz
        have s2 := s1.1
        have s3 := s1.2
        have i0 : (0 : Int) < (s.size : Int) := by omega
        have g0 : 0 < s.size := by omega
        have e0 : ¬ s[0].toNat = 0 := by
          intro e
          apply z0
          rw [List.head?_eq_getElem?, List.getElem?_eq_getElem (by rw [← size_data]; exact g0)]
          congr 1
          exact UInt8.toNat_inj.1 e
        have e1 : ((s[0].toNat : Int) == 0) = false := by rw [beq_eq_false_iff_ne]; omega
        have e2 : (s[0].toNat == 0) = false := by rw [beq_eq_false_iff_ne]; exact e0
        clear s1 sz z0
        go_enter Try.func22, Try.ntmps22
        go_wp2
        go_loop [6, 7] (fun v i => ∃ k : Nat, k ≤ s.size ∧ i = .int .i64 (k : Int) ∧ ∃ V : Nat, v = .int .u64 (V : Int) ∧ readB (s.data.toList.take k) = V) (fun _ i => s.size - (intOf i).toNat)
        case atStart => exact ⟨0, by omega, by simp, 0, by simp, by simp [readB]⟩
        case round =>
          obtain ⟨k, hk, rfl, V, rfl, hV⟩ := hrel
          have HV := Lib.hid hV
          clear hV
          by_cases c : k < s.size
          · have i0 : (0 : Int) ≤ (k : Int) := by omega
            have i1 : (k : Int) < (s.size : Int) := by omega
            have st : readB (s.data.toList.take (k + 1)) = V * 256 + s[k].toNat := by
              rw [btake_next s k c, readB_snoc, HV.out]
            have bd : readB (s.data.toList.take (k + 1)) < 18446744073709551616 := readB_bound _ (by rw [List.length_take, ← size_data]; omega)
            rw [st] at bd
            have l1 : V * 256 + s[k].toNat < 18446744073709551616 := bd
            have l2 : (V : Int) * 256 < 18446744073709551616 := by omega
            have w1 : IntKind.u64.wrap ((V : Int) * 256) = (V : Int) * 256 := by rw [IntKind.wrap_u64]; omega
            have w2 : IntKind.u64.wrap ((V : Int) * 256 + (s[k].toNat : Int)) = (V : Int) * 256 + (s[k].toNat : Int) := by rw [IntKind.wrap_u64]; omega
            have ST := Lib.hid st
            clear st bd
            go_wp2
            go_round
            case rel => exact ⟨k + 1, by omega, by go_num, V * 256 + s[k].toNat, by simp, ST.out⟩
            case measure => simp [intOf]; omega
          · obtain rfl : k = s.size := by omega
            have e := HV.out
            rw [List.take_of_length_le (by rw [size_data]; exact Nat.le_refl _)] at e
            rw [e] at hr
            by_cases z : most < V
            · rw [if_pos z] at hr
              obtain ⟨rfl, rfl⟩ : 0 = v ∧ 3 = r := by injection hr with a b; exact ⟨a, b⟩
              have f1 : decide ((most : Int) < (V : Int)) = true := decide_eq_true (by omega)
              have f2 : decide (most < V) = true := decide_eq_true z
              clear e HV HRN
              go_wp2
              go_ret2
              exact ⟨rfl, Wider.refl w⟩
            · rw [if_neg z] at hr
              obtain ⟨rfl, rfl⟩ : V = v ∧ 0 = r := by injection hr with a b; exact ⟨a, b⟩
              have f1 : decide ((most : Int) < (V : Int)) = false := decide_eq_false (by omega)
              have f2 : decide (most < V) = false := decide_eq_false z
              clear e HV HRN
              go_wp2
              go_ret2
              exact ⟨rfl, Wider.refl w⟩

end Go.Proofs.Ytemfionibnlniaa
