/- The law ProtoCut: a body cut short within an attribute is refused; with an attribute behind it that its kind does not have, too; the first five bytes alone are a message of which all is 0. The table of kinds is as the program's text lays it (the card ties it). -/
import Derived.Test.YtilpimilbjcifaaGreatDoorPG6
import Derived.Test.YtilpimilbjcifaaGreatDoorPCutM
import Derived.Test.YtilpimilbjcifaaGreatDoorPG5
import Derived.Test.YtilpimilbjcifaaGreatDoorPG1
import Derived.Test.YtilpimilbjcifaaGreatDoorOMsgA
import Derived.Test.YtilpimilbjcifaaGreatDoorTRefG
import Derived.Test.YtilpimilbjcifaaGreatDoorPLaid
import Derived.Test.YtilpimilbjcifaaGreatDoorOFew
import Derived.Test.YtilpimilbjcifaaGreatDoorHOpen
import Derived.Test.YtilpimilbjcifaaGreatDoorOpen
import Derived.Test.YtilpimilbjcifaaGreatDoorSOpen
import Derived.Test.YtilpimilbjcifaaGreatDoorCards
import Derived.Test.YtilpimilbjcifaaGreatDoorRows
import Derived.Test.YtilpimilbjcifaaGreatDoorTie
import Derived.Test.YtilpimilbjcifaaGreatDoorRowsG
import Derived.SizedLaws
import Derived.SevenTiedAt
namespace Go.Proofs.YtilpimilbjcifaaGreatDoor
set_option linter.unusedVariables false
set_option maxRecDepth 20000
open Go.ChangeShapes Go.WideShapes Go.ChangeAt Go.RowKit Go.Joins
open Go.ChangeMaps (open_string shut_string)

theorem blk_lt {w : World} {B : Nat} {C : Array Value} {t : TypeId} (h : w.heap[B]? = some (.cells C t (0, 0))) : B < w.heap.size := (Array.getElem?_eq_some_iff.1 h).1
theorem nat_lt {v : Int} {t : Int} (h0 : 0 ≤ v) (h1 : v < t) : ∃ k : Nat, v = (k : Int) ∧ (k : Int) < t := ⟨v.toNat, by omega, by omega⟩
theorem cut_mod (n : Nat) (k : Int) (h0 : 0 < n) (hn : n < 1152921504606846976) : ∃ P : Nat, wrap64 ((IntKind.u64.wrap k).tmod (n : Int)) = (P : Int) ∧ P < n := by
  have u0 : 0 ≤ IntKind.u64.wrap k := by rw [IntKind.wrap_u64]; omega
  rw [Int.tmod_eq_emod_of_nonneg u0]
  have v0 := Int.emod_nonneg (IntKind.u64.wrap k) (show (n : Int) ≠ 0 by omega)
  have v1 := Int.emod_lt_of_pos (IntKind.u64.wrap k) (show (0 : Int) < (n : Int) by omega)
  generalize IntKind.u64.wrap k % (n : Int) = V at *
  have e1 : wrap64 V = V := by unfold wrap64; omega
  rw [e1]
  exact ⟨V.toNat, by omega, by omega⟩
/-- What Encode answers. -/
theorem enc_ways (k z : Nat) (ps : List PartN) : (MayM k ps ∧ (bodyM k z ps).length ≤ 16384 ∧ EncM k z ps (mkB (bodyM k z ps)) 0) ∨ ∃ r, r ≠ 0 ∧ EncM k z ps ⟨#[]⟩ r := by
  by_cases hm : MayM k ps
  · by_cases h : (bodyM k z ps).length ≤ 16384
    · exact .inl ⟨hm, h, .inl ⟨hm, h, rfl, rfl⟩⟩
    · exact .inr ⟨5, by decide, .inr (.inl ⟨hm, by omega, rfl, rfl⟩)⟩
  · exact .inr ⟨3, by decide, .inr (.inr ⟨hm, rfl, rfl⟩)⟩
theorem none_take_next {l : List Nat} {j x : Nat} (h : l[j]? = some x) (t : Nat) : (t ≤ 17 ∧ t ∉ l.take (j + 1)) ↔ (t ≤ 17 ∧ t ∉ l.take j) ∧ x ≠ t := by
  rw [take_next l j x h, List.mem_append, List.mem_singleton]
  constructor
  · rintro ⟨h1, h2⟩; exact ⟨⟨h1, fun h => h2 (.inl h)⟩, fun h => h2 (.inr h.symm)⟩
  · rintro ⟨⟨h1, h2⟩, h3⟩; exact ⟨h1, fun h => by rcases h with h | h; exact h2 h; exact h3 h.symm⟩
/-- The places at which the body is cut, and what comes of it. -/
theorem cut_ways {k z : Nat} {ps : List PartN} (hm : MayM k ps) (hz : z < 4294967296) (hl : (bodyM k z ps).length ≤ 16384) {T : ByteArray} (hT : mkB (bodyM k z ps) = T) (K : Nat) (hK : K < T.size) {m : List AtN} {c : Nat} (hc : decA [] 0 (T.extract 5 (max 5 K)).data.toList = (m, c)) :
    (K < 5 ∧ ∃ r, r ≠ 0 ∧ decM (T.extract 0 K).data.toList = ((0, 0, zeroP), r)) ∨ (5 ≤ K ∧ c ≠ 0 ∧ ∃ r, r ≠ 0 ∧ decM (T.extract 0 K).data.toList = ((0, 0, zeroP), r)) ∨ (5 ≤ K ∧ c = 0 ∧ m.length ≤ 17 ∧ ∃ qs, decM (T.extract 0 K).data.toList = ((k, z, qs), 0)) := by
  have hTd : T.data.toList = bodyM k z ps := by rw [← hT, mkB_data]
  have hTs : T.size = (bodyM k z ps).length := by rw [size_data, hTd]
  by_cases h5 : K < 5
  · refine .inl ⟨h5, 4, by decide, decM_few ?_⟩
    rw [extract_list, List.drop_zero, List.length_take]; omega
  · obtain ⟨P, rfl⟩ : ∃ P, K = 5 + P := ⟨K - 5, by omega⟩
    have eu : (T.extract 5 (max 5 (5 + P))).data.toList = (bytsA (attrsG 1 (csM topD k) ps)).take P := by
      rw [Nat.max_eq_right (by omega), extract_list, hTd, List.drop_take, Nat.add_sub_cancel_left]; rfl
    have eT : (T.extract 0 (5 + P)).data.toList = headB k z ++ (bytsA (attrsG 1 (csM topD k) ps)).take P := by
      rw [extract_list, List.drop_zero, hTd]
      show (headB k z ++ _).take (5 + P) = _
      rw [List.take_append, headB_length, Nat.add_sub_cancel_left, List.take_of_length_le (by rw [headB_length]; omega)]
    have lu : ((bytsA (attrsG 1 (csM topD k) ps)).take P).length ≤ 16379 := by
      rw [List.length_take]; omega
    rw [eu] at hc
    rw [eT]
    by_cases h0 : c = 0
    · subst h0
      obtain ⟨h1, qs, h2⟩ := decM_part hm hz hl (List.take_append_drop P _).symm hc
      exact .inr (.inr ⟨by omega, rfl, h1, qs, h2⟩)
    · exact .inr (.inl ⟨by omega, h0, c, h0, decM_badA hm.1.1 hm.1.2 hz _ lu hc h0⟩)
set_option maxHeartbeats 32000000 in
theorem protoCut_walk (w : World) (HK : KindsAt w) (x : MsgN) (o : x.Ok w) (f : x.Few) (ct : Int) (ct0 : -9223372036854775808 ≤ ct) (ct1 : ct ≤ 9223372036854775807) (ti : Int) (ti0 : 0 ≤ ti) (ti1 : ti < 256) (S0 : ByteArray) (hS0 : S0.size ≤ maxLen) :
    Calls Tryz.prog 9 #[.agg x.cells.toArray, .int .i64 ct, .int .u8 ti, .string S0] w fun e w' => e = .returned (.bool true) ∧ Wider w w' := by
  unfold maxLen at hS0
  obtain ⟨t, rfl, t9⟩ := nat_lt ti0 ti1
  have t9n : t < 256 := by omega
  clear ti1 ti0
  obtain ⟨b, zl, hb⟩ := MsgN.long o f
  obtain ⟨M, hM⟩ : ∃ M, x.cells.toArray = M := ⟨_, rfl⟩
  have sM : M.size = 52 := by rw [← hM]; rfl
  rw [hM] at zl hb ⊢
  have G := (Wider.refl w).alloc (.cells M 51)
  have hA := heap_alloc_new w (.cells M 51)
  obtain ⟨W, hW⟩ : ∃ W, w.alloc (.cells M 51) = W := ⟨_, rfl⟩
  obtain ⟨B, hBB⟩ : ∃ B, w.heap.size = B := ⟨_, rfl⟩
  rw [hW] at G hA
  rw [hBB] at hA
  have HKK := Lib.hid HK
  clear hM o f HK
  cases b with
  | true =>
    clear hb
    go_enter Tryz.func9, Tryz.ntmps9
    go_upto_region 1 with (fail)
    try rw [hW]
    try rw [hBB]
    clear hW hBB
    go_wp2_with (first
      | (go_at_call 23; (with_reducible refine (zl _).mono ?_); rintro e w1 ⟨rfl, g⟩; replace hA := wide_blk hA g; replace G := G.trans g; clear g)
      | (go_at_call 11; (with_reducible refine (awake9_c _ (HKK.out.on G)).mono ?_); rintro e w2 ⟨rfl, g⟩; replace hA := wide_blk hA g; replace G := G.trans g; clear g)
      | (with_reducible refine wpList_load_row rfl 51 (.tmp 4) rfl B rfl 51 M (0, 0) _ hA Tryz.underlying51 rfl (by rw [sM]; kernel_rfl) ?_))
    go_ret
    exact ⟨rfl, G⟩
  | false =>
    by_cases h30 : 3000 < S0.size
    · have k1 : decide ((3000 : Int) < (S0.size : Int)) = true := decide_eq_true (by omega)
      have k2 : decide (3000 < S0.size) = true := decide_eq_true h30
      have k3 : (3000 : Int) < (S0.size : Int) := by omega
      clear hb
      go_enter Tryz.func9, Tryz.ntmps9
      go_upto_region 1 with (fail)
      try rw [hW]
      try rw [hBB]
      clear hW hBB
      go_wp2_with (first
        | (go_at_call 23; (with_reducible refine (zl _).mono ?_); rintro e w1 ⟨rfl, g⟩; replace hA := wide_blk hA g; replace G := G.trans g; clear g)
        | (go_at_call 11; (with_reducible refine (awake9_c _ (HKK.out.on G)).mono ?_); rintro e w2 ⟨rfl, g⟩; replace hA := wide_blk hA g; replace G := G.trans g; clear g)
        | (with_reducible refine wpList_load_row rfl 51 (.tmp 4) rfl B rfl 51 M (0, 0) _ hA Tryz.underlying51 rfl (by rw [sM]; kernel_rfl) ?_))
      go_ret
      exact ⟨rfl, G⟩
    · have k1 : decide ((3000 : Int) < (S0.size : Int)) = false := decide_eq_false (by omega)
      have k2 : decide (3000 < S0.size) = false := decide_eq_false h30
      have k3 : ¬ (3000 : Int) < (S0.size : Int) := by omega
      obtain ⟨hd9, d, R, hdd⟩ := hb rfl
      obtain ⟨k, hk, k8⟩ := nat_lt (bounds_u8 R.w0).1 (bounds_u8 R.w0).2
      obtain ⟨z, hz, z32⟩ := nat_lt (bounds_u32 R.w1).1 (bounds_u32 R.w1).2
      have k9 : k < 256 := by omega
      have z9 : z < 4294967296 := by omega
      have hb0 := fun hm : MayM k d.ps => encM_total k9 (d := d) (by rw [hdd]; omega) hm
      rcases enc_ways k z d.ps with ⟨hmay, hlen, hE⟩ | ⟨r, hr, hE⟩
      · have ze := fun (W : World) (G : Wider w W) => pencode_c W (R.on G) (HKK.out.on G) k z k9 z9 hk hz hb0 hE
        obtain ⟨T, hT⟩ : ∃ T, mkB (bodyM k z d.ps) = T := ⟨_, rfl⟩
        rw [hT] at ze
        have tl : T.size = (bodyM k z d.ps).length := by rw [← hT, mkB_size]
        have tl5 : 5 ≤ T.size := by rw [tl]; unfold bodyM; rw [List.length_append, headB_length]; omega
        obtain ⟨K, hK, hKT⟩ := cut_mod T.size ct (by omega) (by omega)
        obtain ⟨m, c, hmc⟩ : ∃ m c, decA [] 0 (T.extract 5 (max 5 K)).data.toList = (m, c) := ⟨_, _, rfl⟩
        have hways := cut_ways hmay z9 hlen hT K hKT hmc
        obtain ⟨P, hP⟩ : ∃ P, max 5 K = P := ⟨_, rfl⟩
        rw [hP] at hmc
        have hP5 : 5 ≤ P := by omega
        have hPT : P ≤ T.size := by omega
        have hPi : max (5 : Int) (K : Int) = (P : Int) := by omega
        obtain ⟨V, hV⟩ : ∃ V, T.extract 5 P = V := ⟨_, rfl⟩
        obtain ⟨U, hU⟩ : ∃ U, T.extract 0 K = U := ⟨_, rfl⟩
        obtain ⟨H5, hH5⟩ : ∃ H5, T.extract 0 5 = H5 := ⟨_, rfl⟩
        have hT0 : T.data.toList = bodyM k z d.ps := by rw [← hT, mkB_data]
        have h5d : H5.data.toList = headB k z := by
          rw [← hH5, extract_list, hT0]; rfl
        have h5s : H5.size = 5 := by rw [size_data, h5d, headB_length]
        rw [hV] at hmc
        rw [hU] at hways
        have hUs : U.size < 1000000 := by rw [← hU, size_data, extract_list, List.drop_zero, List.length_take, ← size_data]; omega
        have hVs : V.size < 1000000 := by rw [← hV, size_data, extract_list, List.length_drop, List.length_take, ← size_data]; omega
        have zd1 : ∀ (W : World), KindsAt W → Calls Tryz.prog 17 #[.string H5] W fun e w' => DecR W w' e k z zeroP 0 := fun W K => (pdecode_p H5 W (by omega) K).mono fun e w' h => by rw [h5d, decM_bare hmay.1.1 hmay.1.2 z9] at h; exact h
        have zr := fun (W : World) => rdec_c V W hVs hmc
        have mf : m.length ≤ V.size := decA_few hmc
        obtain ⟨q, hq⟩ : ∃ q, m.length = q := ⟨_, rfl⟩
        rw [hq] at zr mf hways
        have q9 : q < 1000000 := by omega
        have T5 : (5 : Int) ≤ (T.size : Int) := by omega
        have T5b : ¬ (T.size : Int) < 5 := by omega
        have T5c : decide ((T.size : Int) < 5) = false := decide_eq_false T5b
        have hwr : IntKind.u64.wrap (T.size : Int) = (T.size : Int) := by rw [IntKind.wrap_u64]; omega
        have hT0 : ((T.size : Int) == 0) = false := by rw [beq_eq_false_iff_ne]; omega
        have hT1 : ¬ (T.size : Int) = 0 := by omega
        have K0 : (0 : Int) ≤ (K : Int) := by omega
        have K1 : (K : Int) ≤ (T.size : Int) := by omega
        have P0 : (5 : Int) ≤ (P : Int) := by omega
        have P1 : (P : Int) ≤ (T.size : Int) := by omega
        have CK : Hid (M[0]? = some (.int .u8 (k : Int)) ∧ M[1]? = some (.int .u32 (z : Int))) := Lib.hid ⟨by rw [← hk]; exact R.c0, by rw [← hz]; exact R.c1⟩
        have zs1 := fun (W : World) (N : Array Value) (dN : MsgD) (Q : RepD W N dN) (h1 : dN.kind = (k : Int)) (h2 : dN.xid = (z : Int)) (h3 : dN.ps = zeroP) => rsame_c W Q (headM_rep W k z k9 z9) (r := true) ⟨fun _ => ⟨h1, h2, h3⟩, fun _ => rfl⟩
        have zs2 := fun (W : World) (N : Array Value) (dN : MsgD) (Q : RepD W N dN) (h1 : dN.kind = ((0 : Nat) : Int)) (h2 : dN.xid = ((0 : Nat) : Int)) (h3 : dN.ps = zeroP) => rsame_c W Q (N := zM) (e := headD 0 0) (zM_repK 0 W).here (r := true) ⟨fun _ => ⟨h1, h2, h3⟩, fun _ => rfl⟩
        have HD := Lib.hid (And.intro hmay (And.intro h5d h5s))
        have hzd2 := fun (W : World) (K : KindsAt W) => pdecode_p U W hUs K
        rcases hways with ⟨hk5, r2, hr2, hd2⟩ | ⟨hk5, hc0, r2, hr2, hd2⟩ | ⟨hk5, rfl, hq17, qs, hd2⟩
        · have j1 : (K : Int) < 5 := by omega
          have j2 : decide ((K : Int) < 5) = true := decide_eq_true j1
          have p1 : ((r2 : Int) != 0) = true := by rw [bne_iff_ne]; omega
          have p2 : ¬ (r2 : Int) = 0 := by omega
          have p3 : ((r2 : Int) == 0) = false := by rw [beq_eq_false_iff_ne]; omega
          have zd2 : ∀ (W : World), KindsAt W → Calls Tryz.prog 17 #[.string U] W fun e w' => DecR W w' e 0 0 zeroP r2 := fun W K => (hzd2 W K).mono fun e w' h => by rw [hd2] at h; exact h
          clear hd2 hzd2 hmay hlen tl hT hmc hb hd9 hdd hk hz k8 z32 hb0 hE R mf hUs hVs h5d h5s hP
          go_enter Tryz.func9, Tryz.ntmps9
          go_upto_region 1 with (fail)
          try rw [hW]
          try rw [hBB]
          clear hW hBB
          go_upto_region 7 with (first
            | (go_at_call 23; (with_reducible refine (zl _).mono ?_); rintro e w1 ⟨rfl, g⟩; replace hA := wide_blk hA g; replace G := G.trans g; clear g)
            | (go_at_call 11; (with_reducible refine (awake9_c _ (HKK.out.on G)).mono ?_); rintro e w2 ⟨rfl, g⟩; replace hA := wide_blk hA g; replace G := G.trans g; clear g)
            | (with_reducible refine wpList_load_row rfl 51 (.tmp 4) rfl B rfl 51 M (0, 0) _ hA Tryz.underlying51 rfl (by rw [sM]; kernel_rfl) ?_)
            | (go_at_call 16; (with_reducible refine (ze _ G).mono ?_); rintro e w3 ⟨rfl, g⟩; replace hA := wide_blk hA g; replace G := G.trans g; clear g)
            | (go_at_call 17; (with_reducible refine (zd1 _ (HKK.out.on G)).mono ?_); rintro e w4 ⟨N1, dN, rfl, g, RN0, n1, n2, n3⟩; have hN := heap_alloc_new w4 (.cells zM 51); have sN := RN0.here.size; have oN := RN0.here.one; have RN := RN0.here; clear RN0; have gA := (Wider.refl w4).alloc (.cells zM 51); replace hA := wide_blk hA g; replace G := G.trans g; clear g)
            | (with_reducible refine wpList_store_row rfl 51 (.tmp 11) (.tmp 57) rfl w4.heap.size N1 rfl rfl 51 zM hN (by rw [sN]; kernel_rfl) (by rw [sN]; exact zM_size) oN ?_; obtain ⟨g5, h4⟩ := setRow_facts N1 hN; have hA3 := but_blk (wide_blk hA gA) g5 (Nat.ne_of_lt (blk_lt hA)); have g6 := g5.wider gA (by intro i m; simp only [List.mem_singleton] at m; omega); replace RN := RN.on g6; replace G := G.trans g6; clear hA g5 g6 gA hN oN; have hA := hA3; clear hA3))
          have y0 := blk_cell hA 0 CK.out.1
          have y1 := blk_cell hA 1 CK.out.2
          go_upto_region 9 with (first
            | (with_reducible refine wpList_load_row_w (by kernel_rfl) 51 (.tmp 11) rfl w4.heap.size rfl 51 N1 (0, 0) _ h4 Tryz.underlying51 rfl (by rw [sN]; kernel_rfl) ?_)
            | (with_reducible refine wpList_field rfl 51 (.tmp 4) 0 rfl B 0 0 rfl (fieldM0 _) ?_)
            | (with_reducible refine wpList_run_val_w (by kernel_rfl) 51 #[(0, .tmp 64), (1, .tmp 66)] rfl (ps := #[(0, .int .u8 (k : Int)), (1, .int .u32 (z : Int))]) (by kernel_rfl) (run_build _ _ _ (headM k z) (by kernel_rfl)) ?_)
            | (go_at_call 22; (with_reducible refine (zs1 _ N1 dN RN n1 n2 n3).mono ?_); rintro e w5 ⟨rfl, g⟩; replace hA := wide_blk hA g; replace G := G.trans g; clear g))
          clear y0 y1 h4 zs1 zd1 zl ze
          go_upto_region 12 with (first
            | (go_at_call 31; (with_reducible refine (zr _).mono ?_); rintro e w6 ⟨v6, rfl, g, ho⟩; obtain ⟨A6, cp6, rfl, _, _⟩ := atsAt_own ho; clear ho; replace hA := wide_blk hA g; replace G := G.trans g; clear g)
            | (go_at_call 17; (with_reducible refine (zd2 _ (HKK.out.on G)).mono ?_); rintro e w7 ⟨X, dX, rfl, g, RX0, m1, m2, m3⟩; have hN := heap_alloc_new w7 (.cells zM 51); have sX := RX0.here.size; have oN := RX0.here.one; have RX := RX0.here; clear RX0; have gA := (Wider.refl w7).alloc (.cells zM 51); replace hA := wide_blk hA g; replace G := G.trans g; clear g)
            | (with_reducible refine wpList_store_row rfl 51 (.tmp 16) (.tmp 91) rfl w7.heap.size X rfl rfl 51 zM hN (by rw [sX]; kernel_rfl) (by rw [sX]; exact zM_size) oN ?_; obtain ⟨g5, h7⟩ := setRow_facts X hN; have hA3 := but_blk (wide_blk hA gA) g5 (Nat.ne_of_lt (blk_lt hA)); have g6 := g5.wider gA (by intro i m; simp only [List.mem_singleton] at m; omega); replace RX := RX.on g6; replace G := G.trans g6; clear hA g5 g6 gA hN oN; have hA := hA3; clear hA3))
          go_wp2_with (first
            | (with_reducible refine wpList_load_row_w (by kernel_rfl) 51 (.tmp 16) rfl w7.heap.size rfl 51 X (0, 0) _ h7 Tryz.underlying51 rfl (by rw [sX]; kernel_rfl) ?_)
            | (with_reducible refine wpList_run_val_w (by kernel_rfl) 51 #[] rfl (ps := #[]) rfl (build0 _) ?_)
            | (go_at_call 22; (with_reducible refine (zs2 _ X dX RX m1 m2 m3).mono ?_); rintro e w8 ⟨rfl, g⟩; replace G := G.trans g; clear g))
          go_ret
          exact ⟨rfl, G⟩
        · have j1 : ¬ (K : Int) < 5 := by omega
          have j2 : decide ((K : Int) < 5) = false := decide_eq_false j1
          have c1 : ((c : Int) != 0) = true := by rw [bne_iff_ne]; omega
          have c2 : ¬ (c : Int) = 0 := by omega
          have c3 : ((c : Int) == 0) = false := by rw [beq_eq_false_iff_ne]; omega
          have p1 : ((r2 : Int) != 0) = true := by rw [bne_iff_ne]; omega
          have p2 : ¬ (r2 : Int) = 0 := by omega
          have p3 : ((r2 : Int) == 0) = false := by rw [beq_eq_false_iff_ne]; omega
          have zd2 : ∀ (W : World), KindsAt W → Calls Tryz.prog 17 #[.string U] W fun e w' => DecR W w' e 0 0 zeroP r2 := fun W K => (hzd2 W K).mono fun e w' h => by rw [hd2] at h; exact h
          clear hd2 hzd2 hmay hlen tl hT hmc hb hd9 hdd hk hz k8 z32 hb0 hE R mf hUs hVs h5d h5s hP
          go_enter Tryz.func9, Tryz.ntmps9
          go_upto_region 1 with (fail)
          try rw [hW]
          try rw [hBB]
          clear hW hBB
          go_upto_region 7 with (first
            | (go_at_call 23; (with_reducible refine (zl _).mono ?_); rintro e w1 ⟨rfl, g⟩; replace hA := wide_blk hA g; replace G := G.trans g; clear g)
            | (go_at_call 11; (with_reducible refine (awake9_c _ (HKK.out.on G)).mono ?_); rintro e w2 ⟨rfl, g⟩; replace hA := wide_blk hA g; replace G := G.trans g; clear g)
            | (with_reducible refine wpList_load_row rfl 51 (.tmp 4) rfl B rfl 51 M (0, 0) _ hA Tryz.underlying51 rfl (by rw [sM]; kernel_rfl) ?_)
            | (go_at_call 16; (with_reducible refine (ze _ G).mono ?_); rintro e w3 ⟨rfl, g⟩; replace hA := wide_blk hA g; replace G := G.trans g; clear g)
            | (go_at_call 17; (with_reducible refine (zd1 _ (HKK.out.on G)).mono ?_); rintro e w4 ⟨N1, dN, rfl, g, RN0, n1, n2, n3⟩; have hN := heap_alloc_new w4 (.cells zM 51); have sN := RN0.here.size; have oN := RN0.here.one; have RN := RN0.here; clear RN0; have gA := (Wider.refl w4).alloc (.cells zM 51); replace hA := wide_blk hA g; replace G := G.trans g; clear g)
            | (with_reducible refine wpList_store_row rfl 51 (.tmp 11) (.tmp 57) rfl w4.heap.size N1 rfl rfl 51 zM hN (by rw [sN]; kernel_rfl) (by rw [sN]; exact zM_size) oN ?_; obtain ⟨g5, h4⟩ := setRow_facts N1 hN; have hA3 := but_blk (wide_blk hA gA) g5 (Nat.ne_of_lt (blk_lt hA)); have g6 := g5.wider gA (by intro i m; simp only [List.mem_singleton] at m; omega); replace RN := RN.on g6; replace G := G.trans g6; clear hA g5 g6 gA hN oN; have hA := hA3; clear hA3))
          have y0 := blk_cell hA 0 CK.out.1
          have y1 := blk_cell hA 1 CK.out.2
          go_upto_region 9 with (first
            | (with_reducible refine wpList_load_row_w (by kernel_rfl) 51 (.tmp 11) rfl w4.heap.size rfl 51 N1 (0, 0) _ h4 Tryz.underlying51 rfl (by rw [sN]; kernel_rfl) ?_)
            | (with_reducible refine wpList_field rfl 51 (.tmp 4) 0 rfl B 0 0 rfl (fieldM0 _) ?_)
            | (with_reducible refine wpList_run_val_w (by kernel_rfl) 51 #[(0, .tmp 64), (1, .tmp 66)] rfl (ps := #[(0, .int .u8 (k : Int)), (1, .int .u32 (z : Int))]) (by kernel_rfl) (run_build _ _ _ (headM k z) (by kernel_rfl)) ?_)
            | (go_at_call 22; (with_reducible refine (zs1 _ N1 dN RN n1 n2 n3).mono ?_); rintro e w5 ⟨rfl, g⟩; replace hA := wide_blk hA g; replace G := G.trans g; clear g))
          clear y0 y1 h4 zs1 zd1 zl ze
          go_upto_region 12 with (first
            | (go_at_call 31; (with_reducible refine (zr _).mono ?_); rintro e w6 ⟨v6, rfl, g, ho⟩; obtain ⟨A6, cp6, rfl, _, _⟩ := atsAt_own ho; clear ho; replace hA := wide_blk hA g; replace G := G.trans g; clear g)
            | (go_at_call 17; (with_reducible refine (zd2 _ (HKK.out.on G)).mono ?_); rintro e w7 ⟨X, dX, rfl, g, RX0, m1, m2, m3⟩; have hN := heap_alloc_new w7 (.cells zM 51); have sX := RX0.here.size; have oN := RX0.here.one; have RX := RX0.here; clear RX0; have gA := (Wider.refl w7).alloc (.cells zM 51); replace hA := wide_blk hA g; replace G := G.trans g; clear g)
            | (with_reducible refine wpList_store_row rfl 51 (.tmp 16) (.tmp 91) rfl w7.heap.size X rfl rfl 51 zM hN (by rw [sX]; kernel_rfl) (by rw [sX]; exact zM_size) oN ?_; obtain ⟨g5, h7⟩ := setRow_facts X hN; have hA3 := but_blk (wide_blk hA gA) g5 (Nat.ne_of_lt (blk_lt hA)); have g6 := g5.wider gA (by intro i m; simp only [List.mem_singleton] at m; omega); replace RX := RX.on g6; replace G := G.trans g6; clear hA g5 g6 gA hN oN; have hA := hA3; clear hA3))
          go_wp2_with (first
            | (with_reducible refine wpList_load_row_w (by kernel_rfl) 51 (.tmp 16) rfl w7.heap.size rfl 51 X (0, 0) _ h7 Tryz.underlying51 rfl (by rw [sX]; kernel_rfl) ?_)
            | (with_reducible refine wpList_run_val_w (by kernel_rfl) 51 #[] rfl (ps := #[]) rfl (build0 _) ?_)
            | (go_at_call 22; (with_reducible refine (zs2 _ X dX RX m1 m2 m3).mono ?_); rintro e w8 ⟨rfl, g⟩; replace G := G.trans g; clear g))
          go_ret
          exact ⟨rfl, G⟩
        · have j1 : ¬ (K : Int) < 5 := by omega
          have j2 : decide ((K : Int) < 5) = false := decide_eq_false j1
          have q17 : ¬ (17 : Int) < (q : Int) := by omega
          have q17b : decide ((17 : Int) < (q : Int)) = false := decide_eq_false q17
          have zd2 : ∀ (W : World), KindsAt W → Calls Tryz.prog 17 #[.string U] W fun e w' => DecR W w' e k z qs 0 := fun W K => (hzd2 W K).mono fun e w' h => by rw [hd2] at h; exact h
          have zp := fun (W : World) => rput_c (zM_repK 0 W).here (zM_repK 0 W).here t
          have zs3 := fun (W : World) (Y : Array Value) (Q : RepD W Y ((headD 0 0).tak (headD 0 0) (pI t))) => rsame_c W Q (N := zM) (e := headD 0 0) (zM_repK 0 W).here (r := true) ⟨fun _ => tak_zero t, fun _ => rfl⟩
          have zh := fun (W : World) (G : Wider w W) => thas_c W k k9 (HKK.out.on G)
          have hl4 := hasL_len k9
          obtain ⟨l, hl⟩ : ∃ l, hasL k = l := ⟨_, rfl⟩
          obtain ⟨n, hn⟩ : ∃ n, l.length = n := ⟨_, rfl⟩
          rw [hl] at hl4 zh
          rw [hn] at hl4
          have HL := Lib.hid (And.intro hl hn)
          have n4 : (n : Int) < 4 := by omega
          obtain ⟨T2, hT2⟩ : ∃ T2, encA [⟨t, S0⟩] = T2 := ⟨_, rfl⟩
          obtain ⟨r5, hr5⟩ : ∃ r5, okA 0 [⟨t, S0⟩] = r5 := ⟨_, rfl⟩
          have zq := fun (W : World) (tt : TypeId) => renc_c (some ⟨W.heap.size, 0, none⟩) 1 1 [⟨t, S0⟩] (W.alloc (.cells #[.int .u8 (t : Int), .string S0] tt)) (ats_new W [⟨t, S0⟩] tt _ rfl) rfl (by decide) (by rw [bytsA_cons, bytsA_nil, List.append_nil, bytA_length]; show 3 + S0.size < _; omega) hT2 hr5
          have HE2 := Lib.hid (enc_one hT2 (by omega : S0.size ≤ 3000))
          clear hT2 hr5 hl hn
          clear hd2 hzd2 hmay hlen tl hT hmc hb hd9 hdd hk hz k8 z32 hb0 hE R mf hUs hVs h5d h5s hP
          go_enter Tryz.func9, Tryz.ntmps9
          go_upto_region 1 with (fail)
          try rw [hW]
          try rw [hBB]
          clear hW hBB
          go_upto_region 7 with (first
            | (go_at_call 23; (with_reducible refine (zl _).mono ?_); rintro e w1 ⟨rfl, g⟩; replace hA := wide_blk hA g; replace G := G.trans g; clear g)
            | (go_at_call 11; (with_reducible refine (awake9_c _ (HKK.out.on G)).mono ?_); rintro e w2 ⟨rfl, g⟩; replace hA := wide_blk hA g; replace G := G.trans g; clear g)
            | (with_reducible refine wpList_load_row rfl 51 (.tmp 4) rfl B rfl 51 M (0, 0) _ hA Tryz.underlying51 rfl (by rw [sM]; kernel_rfl) ?_)
            | (go_at_call 16; (with_reducible refine (ze _ G).mono ?_); rintro e w3 ⟨rfl, g⟩; replace hA := wide_blk hA g; replace G := G.trans g; clear g)
            | (go_at_call 17; (with_reducible refine (zd1 _ (HKK.out.on G)).mono ?_); rintro e w4 ⟨N1, dN, rfl, g, RN0, n1, n2, n3⟩; have hN := heap_alloc_new w4 (.cells zM 51); have sN := RN0.here.size; have oN := RN0.here.one; have RN := RN0.here; clear RN0; have gA := (Wider.refl w4).alloc (.cells zM 51); replace hA := wide_blk hA g; replace G := G.trans g; clear g)
            | (with_reducible refine wpList_store_row rfl 51 (.tmp 11) (.tmp 57) rfl w4.heap.size N1 rfl rfl 51 zM hN (by rw [sN]; kernel_rfl) (by rw [sN]; exact zM_size) oN ?_; obtain ⟨g5, h4⟩ := setRow_facts N1 hN; have hA3 := but_blk (wide_blk hA gA) g5 (Nat.ne_of_lt (blk_lt hA)); have g6 := g5.wider gA (by intro i m; simp only [List.mem_singleton] at m; omega); replace RN := RN.on g6; replace G := G.trans g6; clear hA g5 g6 gA hN oN; have hA := hA3; clear hA3))
          have y0 := blk_cell hA 0 CK.out.1
          have y1 := blk_cell hA 1 CK.out.2
          go_upto_region 9 with (first
            | (with_reducible refine wpList_load_row_w (by kernel_rfl) 51 (.tmp 11) rfl w4.heap.size rfl 51 N1 (0, 0) _ h4 Tryz.underlying51 rfl (by rw [sN]; kernel_rfl) ?_)
            | (with_reducible refine wpList_field rfl 51 (.tmp 4) 0 rfl B 0 0 rfl (fieldM0 _) ?_)
            | (with_reducible refine wpList_run_val_w (by kernel_rfl) 51 #[(0, .tmp 64), (1, .tmp 66)] rfl (ps := #[(0, .int .u8 (k : Int)), (1, .int .u32 (z : Int))]) (by kernel_rfl) (run_build _ _ _ (headM k z) (by kernel_rfl)) ?_)
            | (go_at_call 22; (with_reducible refine (zs1 _ N1 dN RN n1 n2 n3).mono ?_); rintro e w5 ⟨rfl, g⟩; replace hA := wide_blk hA g; replace G := G.trans g; clear g))
          clear y0 y1 h4 zs1 zd1 zl ze
          go_upto_region 12 with (first
            | (go_at_call 31; (with_reducible refine (zr _).mono ?_); rintro e w6 ⟨v6, rfl, g, ho⟩; obtain ⟨A6, cp6, rfl, _, _⟩ := atsAt_own ho; clear ho; replace hA := wide_blk hA g; replace G := G.trans g; clear g)
            | (go_at_call 17; (with_reducible refine (zd2 _ (HKK.out.on G)).mono ?_); rintro e w7 ⟨X, dX, rfl, g, RX0, m1, m2, m3⟩; have hN := heap_alloc_new w7 (.cells zM 51); have sX := RX0.here.size; have oN := RX0.here.one; have RX := RX0.here; clear RX0; have gA := (Wider.refl w7).alloc (.cells zM 51); replace hA := wide_blk hA g; replace G := G.trans g; clear g)
            | (with_reducible refine wpList_store_row rfl 51 (.tmp 16) (.tmp 91) rfl w7.heap.size X rfl rfl 51 zM hN (by rw [sX]; kernel_rfl) (by rw [sX]; exact zM_size) oN ?_; obtain ⟨g5, h7⟩ := setRow_facts X hN; have hA3 := but_blk (wide_blk hA gA) g5 (Nat.ne_of_lt (blk_lt hA)); have g6 := g5.wider gA (by intro i m; simp only [List.mem_singleton] at m; omega); replace RX := RX.on g6; replace G := G.trans g6; clear hA g5 g6 gA hN oN; have hA := hA3; clear hA3))
          clear zd2 zr zs2 h7
          by_cases t17 : t ≤ 17
          · have t17a : (t : Int) ≤ 17 := by omega
            go_upto_region 17 with (first
            | (with_reducible refine wpList_run_val_w (by kernel_rfl) 51 #[] rfl (ps := #[]) rfl (build0 _) ?_)
            | (go_at_call 30; (with_reducible refine (zp _).mono ?_); rintro e w8 ⟨Y, rfl, g, RY⟩; replace hA := wide_blk hA g; replace G := G.trans g; clear g)
            | (go_at_call 22; (with_reducible refine (zs3 _ Y RY).mono ?_); rintro e w9 ⟨rfl, g⟩; replace hA := wide_blk hA g; replace G := G.trans g; clear g))
            have y0 := blk_cell hA 0 CK.out.1
            go_upto_region 18 with (first
            | (with_reducible refine wpList_field rfl 51 (.tmp 4) 0 rfl B 0 0 rfl (fieldM0 _) ?_)
            | (go_at_call 13; (with_reducible refine (zh _ G).mono ?_); rintro e w10 ⟨v10, rfl, g, ho⟩; replace hA := wide_blk hA g; replace G := G.trans g; clear g))
            obtain ⟨A, cp, rfl, hRow⟩ := own8_row ho
            rw [HL.out.2] at ho ⊢
            clear ho y0 zh zp zs3
            go_wp2
            go_loopw [18, 20] (fun its i wr => ∃ (j : Nat) (bi : Bool), j ≤ n ∧ i = .int .i64 (j : Int) ∧ its = .bool bi ∧ Hid (bi = true ↔ t ≤ 17 ∧ t ∉ l.take j) ∧ wr = w10) (fun _ i _ => n - (intOf i).toNat)
            case atStart => exact ⟨0, true, by omega, by simp, rfl, ⟨fun _ => ⟨by omega, by simp⟩, fun _ => rfl⟩, rfl⟩
            case round =>
              obtain ⟨j, bi, hj, rfl, rfl, HI, rfl⟩ := hrel
              by_cases cj : j < n
              · have j0 : (0 : Int) ≤ (j : Int) := by omega
                have i1 : (j : Int) < (n : Int) := by omega
                have i2 : IntKind.i64.wrap ((j : Int) + 1) = (j : Int) + 1 := by rw [IntKind.wrap_i64]; omega
                obtain ⟨y, hy⟩ : ∃ y, l[j]? = some y := ⟨l[j]'(by have := HL.out.2; omega), List.getElem?_eq_getElem _⟩
                obtain ⟨a, rfl, hc⟩ := row8_at hRow hy
                have HY := Lib.hid (none_take_next hy t)
                clear hy
                cases bi with
                | false =>
                  go_wp2
                  go_roundw
                  case rel => exact ⟨j + 1, false, by omega, by go_num, rfl, ⟨fun h => (by cases h), fun h => HI.out.2 (HY.out.1 h).1⟩, (by first | rfl | trivial)⟩
                  case measure => simp [intOf]; omega
                | true =>
                  by_cases e : y = t
                  · have e1 : ((y : Int) != (t : Int)) = false := by rw [bne_eq_false_iff_eq]; omega
                    have HE := Lib.hid e
                    clear e
                    go_wp2
                    go_roundw
                    case rel => exact ⟨j + 1, false, by omega, by go_num, rfl, ⟨fun h => (by cases h), fun h => absurd HE.out (HY.out.1 h).2⟩, (by first | rfl | trivial)⟩
                    case measure => simp [intOf]; omega
                  · have e1 : ((y : Int) != (t : Int)) = true := by rw [bne_iff_ne]; omega
                    have HE := Lib.hid e
                    clear e
                    go_wp2
                    go_roundw
                    case rel => exact ⟨j + 1, true, by omega, by go_num, rfl, ⟨fun _ => HY.out.2 ⟨HI.out.1 rfl, HE.out⟩, fun _ => rfl⟩, (by first | rfl | trivial)⟩
                    case measure => simp [intOf]; omega
              · obtain rfl : j = n := by omega
                have i1 : ¬ (j : Int) < (j : Int) := by omega
                have HT : Hid (bi = true ↔ t ≤ 17 ∧ t ∉ l) := Lib.hid (by have := HI.out; rwa [List.take_of_length_le (by have := HL.out.2; omega)] at this)
                clear HI hRow
                go_upto_region 23 with (first
                  | (go_at_call 32; (with_reducible refine (zq _ _).mono ?_); rintro e w11 ⟨rfl, g⟩; replace hA := wide_blk hA (((Wider.refl _).alloc _).trans g); replace G := (G.alloc _).trans g; clear g))
                rcases HE2.out with ⟨e0, _⟩ | ⟨e0, n0, ok2, sz2⟩
                · subst e0
                  go_wp2
                  go_ret
                  exact ⟨rfl, G⟩
                · obtain ⟨f2, f3⟩ := ne_empty T2 n0
                  have h5z := HD.out.2.2
                  by_cases hh : bi = false ∧ t ≤ 17
                  · obtain ⟨rfl, h17⟩ := hh
                    have g1 : (t : Int) ≤ 17 := by omega
                    clear HT
                    go_wp2
                    go_ret
                    exact ⟨rfl, G⟩
                  · have hnl : t ∉ hasL k := by
                      rw [HL.out.1]; intro h
                      have := hasL_between k9 (by rw [HL.out.1]; exact h)
                      cases bi with
                      | true => exact (HT.out.1 rfl).2 h
                      | false => exact hh ⟨rfl, by omega⟩
                    have zf : ∀ (W : World), KindsAt W → Calls Tryz.prog 19 #[.string (H5 ++ T2), .int .i64 3] W fun e w' => e = .returned (.bool true) ∧ Wider W w' := fun W K => prefused_c W K (H5 ++ T2) (by rw [ba_append_size, HD.out.2.2]; omega) (r := 3) (by rw [ba_append_data, HD.out.2.1, e0]; exact decM_behind HD.out.1.1.1 HD.out.1.1.2 z9 t9n ok2 (by omega) hnl)
                    cases bi with
                    | true =>
                      clear hh HT
                      go_wp2_with (first
                      | (go_at_call 19; (with_reducible refine (zf _ (HKK.out.on G)).mono ?_); rintro e w12 ⟨rfl, g⟩; replace G := G.trans g; clear g))
                      go_ret
                      exact ⟨rfl, G⟩
                    | false =>
                      have g1 : ¬ (t : Int) ≤ 17 := fun h => hh ⟨rfl, by omega⟩
                      clear hh HT
                      go_wp2_with (first
                      | (go_at_call 19; (with_reducible refine (zf _ (HKK.out.on G)).mono ?_); rintro e w12 ⟨rfl, g⟩; replace G := G.trans g; clear g))
                      go_ret
                      exact ⟨rfl, G⟩
          · have t17a : ¬ (t : Int) ≤ 17 := by omega
            go_upto_region 17 with (fail)
            have y0 := blk_cell hA 0 CK.out.1
            go_upto_region 18 with (first
            | (with_reducible refine wpList_field rfl 51 (.tmp 4) 0 rfl B 0 0 rfl (fieldM0 _) ?_)
            | (go_at_call 13; (with_reducible refine (zh _ G).mono ?_); rintro e w10 ⟨v10, rfl, g, ho⟩; replace hA := wide_blk hA g; replace G := G.trans g; clear g))
            obtain ⟨A, cp, rfl, hRow⟩ := own8_row ho
            rw [HL.out.2] at ho ⊢
            clear ho y0 zh zp zs3
            go_wp2
            go_loopw [18, 20] (fun its i wr => ∃ (j : Nat) (bi : Bool), j ≤ n ∧ i = .int .i64 (j : Int) ∧ its = .bool bi ∧ Hid (bi = true ↔ t ≤ 17 ∧ t ∉ l.take j) ∧ wr = w10) (fun _ i _ => n - (intOf i).toNat)
            case atStart => exact ⟨0, false, by omega, by simp, rfl, ⟨fun h => (by cases h), fun h => by omega⟩, rfl⟩
            case round =>
              obtain ⟨j, bi, hj, rfl, rfl, HI, rfl⟩ := hrel
              by_cases cj : j < n
              · have j0 : (0 : Int) ≤ (j : Int) := by omega
                have i1 : (j : Int) < (n : Int) := by omega
                have i2 : IntKind.i64.wrap ((j : Int) + 1) = (j : Int) + 1 := by rw [IntKind.wrap_i64]; omega
                obtain ⟨y, hy⟩ : ∃ y, l[j]? = some y := ⟨l[j]'(by have := HL.out.2; omega), List.getElem?_eq_getElem _⟩
                obtain ⟨a, rfl, hc⟩ := row8_at hRow hy
                have HY := Lib.hid (none_take_next hy t)
                clear hy
                cases bi with
                | false =>
                  go_wp2
                  go_roundw
                  case rel => exact ⟨j + 1, false, by omega, by go_num, rfl, ⟨fun h => (by cases h), fun h => HI.out.2 (HY.out.1 h).1⟩, (by first | rfl | trivial)⟩
                  case measure => simp [intOf]; omega
                | true =>
                  by_cases e : y = t
                  · have e1 : ((y : Int) != (t : Int)) = false := by rw [bne_eq_false_iff_eq]; omega
                    have HE := Lib.hid e
                    clear e
                    go_wp2
                    go_roundw
                    case rel => exact ⟨j + 1, false, by omega, by go_num, rfl, ⟨fun h => (by cases h), fun h => absurd HE.out (HY.out.1 h).2⟩, (by first | rfl | trivial)⟩
                    case measure => simp [intOf]; omega
                  · have e1 : ((y : Int) != (t : Int)) = true := by rw [bne_iff_ne]; omega
                    have HE := Lib.hid e
                    clear e
                    go_wp2
                    go_roundw
                    case rel => exact ⟨j + 1, true, by omega, by go_num, rfl, ⟨fun _ => HY.out.2 ⟨HI.out.1 rfl, HE.out⟩, fun _ => rfl⟩, (by first | rfl | trivial)⟩
                    case measure => simp [intOf]; omega
              · obtain rfl : j = n := by omega
                have i1 : ¬ (j : Int) < (j : Int) := by omega
                have HT : Hid (bi = true ↔ t ≤ 17 ∧ t ∉ l) := Lib.hid (by have := HI.out; rwa [List.take_of_length_le (by have := HL.out.2; omega)] at this)
                clear HI hRow
                go_upto_region 23 with (first
                  | (go_at_call 32; (with_reducible refine (zq _ _).mono ?_); rintro e w11 ⟨rfl, g⟩; replace hA := wide_blk hA (((Wider.refl _).alloc _).trans g); replace G := (G.alloc _).trans g; clear g))
                rcases HE2.out with ⟨e0, _⟩ | ⟨e0, n0, ok2, sz2⟩
                · subst e0
                  go_wp2
                  go_ret
                  exact ⟨rfl, G⟩
                · obtain ⟨f2, f3⟩ := ne_empty T2 n0
                  have h5z := HD.out.2.2
                  by_cases hh : bi = false ∧ t ≤ 17
                  · obtain ⟨rfl, h17⟩ := hh
                    have g1 : (t : Int) ≤ 17 := by omega
                    clear HT
                    go_wp2
                    go_ret
                    exact ⟨rfl, G⟩
                  · have hnl : t ∉ hasL k := by
                      rw [HL.out.1]; intro h
                      have := hasL_between k9 (by rw [HL.out.1]; exact h)
                      cases bi with
                      | true => exact (HT.out.1 rfl).2 h
                      | false => exact hh ⟨rfl, by omega⟩
                    have zf : ∀ (W : World), KindsAt W → Calls Tryz.prog 19 #[.string (H5 ++ T2), .int .i64 3] W fun e w' => e = .returned (.bool true) ∧ Wider W w' := fun W K => prefused_c W K (H5 ++ T2) (by rw [ba_append_size, HD.out.2.2]; omega) (r := 3) (by rw [ba_append_data, HD.out.2.1, e0]; exact decM_behind HD.out.1.1.1 HD.out.1.1.2 z9 t9n ok2 (by omega) hnl)
                    cases bi with
                    | true =>
                      clear hh HT
                      go_wp2_with (first
                      | (go_at_call 19; (with_reducible refine (zf _ (HKK.out.on G)).mono ?_); rintro e w12 ⟨rfl, g⟩; replace G := G.trans g; clear g))
                      go_ret
                      exact ⟨rfl, G⟩
                    | false =>
                      have g1 : ¬ (t : Int) ≤ 17 := fun h => hh ⟨rfl, by omega⟩
                      clear hh HT
                      go_wp2_with (first
                      | (go_at_call 19; (with_reducible refine (zf _ (HKK.out.on G)).mono ?_); rintro e w12 ⟨rfl, g⟩; replace G := G.trans g; clear g))
                      go_ret
                      exact ⟨rfl, G⟩
      · have ze := fun (W : World) (G : Wider w W) => pencode_c W (R.on G) (HKK.out.on G) k z k9 z9 hk hz hb0 hE
        have r0 : ((r : Int) == 0) = false := by rw [beq_eq_false_iff_ne]; omega
        have r0' : ((r : Int) != 0) = true := by rw [bne_iff_ne]; omega
        have r1 : ¬ (r : Int) = 0 := by omega
        clear hb hd9 hdd hk hz hb0 hE R k8 z32
        go_enter Tryz.func9, Tryz.ntmps9
        go_upto_region 1 with (fail)
        try rw [hW]
        try rw [hBB]
        clear hW hBB
        go_wp2_with (first
          | (go_at_call 23; (with_reducible refine (zl _).mono ?_); rintro e w1 ⟨rfl, g⟩; replace hA := wide_blk hA g; replace G := G.trans g; clear g)
          | (go_at_call 11; (with_reducible refine (awake9_c _ (HKK.out.on G)).mono ?_); rintro e w2 ⟨rfl, g⟩; replace hA := wide_blk hA g; replace G := G.trans g; clear g)
          | (with_reducible refine wpList_load_row rfl 51 (.tmp 4) rfl B rfl 51 M (0, 0) _ hA Tryz.underlying51 rfl (by rw [sM]; kernel_rfl) ?_)
          | (go_at_call 16; (with_reducible refine (ze _ G).mono ?_); rintro e w3 ⟨rfl, g⟩; replace hA := wide_blk hA g; replace G := G.trans g; clear g))
        go_ret
        exact ⟨rfl, G⟩

set_option maxRecDepth 100000 in
theorem protoCut_lifted (os : Os) (started : os.Started) (H : Type) (enc : TypeId × Value → H) :
    ReturnsInHanded {} Tryz.checked os 9 .any (fun w args => (Rows.protoCutSpec.pre enc Tryz.prog Tryz.f9 [] false w args ∧ laidMetH Tryz.prog Rows.protoCutRow.laid w) ∧ sizedMet enc Tryz.prog Tryz.f9 (OpenSpec.ofChange Rows.protoCutSpec) false w args)
      (Rows.protoCutSpec.post enc Tryz.prog Tryz.f9 false true false false) := by
  refine returnsInHanded_of_change_and (C := Tryz.checked) (X := fun w _ => laidMetH Tryz.prog Rows.protoCutRow.laid w) (fun _ _ _ hh h => h.of_heap hh) own started (by kernel_rfl) Tryz.func9
    (ChangeSpec.witness_shaped (enc := enc) (C := Tryz.checked) (os := os) (X := fun w _ => laidMetH Tryz.prog Rows.protoCutRow.laid w) false (World.doorLaid Tryz.prog 14 os) #[.agg #[.int .u8 0, .int .u32 0, .int .i64 0, .int .i64 0, .int .i64 0, .int .i64 0, .int .i64 0, .int .u64 0, .int .u64 0, .string ⟨#[]⟩, .slice none 0 0, .int .i64 0, .int .i64 0, .int .i64 0, .int .i64 0, .int .i64 0, .int .i64 0, .int .i64 0, .slice none 0 0, .int .i64 0, .int .i64 0, .int .u8 0, .int .i64 0, .int .i64 0, .int .i64 0, .int .i64 0, .int .u8 0, .slice none 0 0, .int .i64 0, .int .i64 0, .int .i64 0, .string ⟨#[]⟩, .string ⟨#[]⟩, .int .i64 0, .int .i64 0, .int .i64 0, .slice none 0 0, .int .i64 0, .int .i64 0, .int .u64 0, .bool false, .int .i64 0, .slice none 0 0, .int .i64 0, .int .u8 0, .int .i64 0, .slice none 0 0, .int .i64 0, .int .i64 0, .int .i64 0, .int .i64 0, .int .i64 0], .int .i64 0, .int .u8 0, .string ⟨#[]⟩] 8 rfl (World.shaped_of_RefB (by kernel_rfl) (by kernel_rfl)) (by kernel_rfl) (by kernel_rfl) (by kernel_rfl) (kinds_door_met os _)) ?_
  intro W base args ds gs before hval0 hW hcnd hsz hL _
  have hval : ∀ (j : Nat) t v, Tryz.f9.params[j]? = some t → args[j]? = some v → Value.okWide Tryz.prog W .any base t v := hval0
  have hW' := hW
  obtain ⟨p, q, hA0, hV, rfl, hfz, hnd⟩ := hW
  have hA : DataW.TrodAll enc Tryz.prog W 0 (fun _ => true) true Tryz.f9.params.toList args.toList ds p := hA0
  rw [Tryz.params9] at hA hval hsz
  obtain ⟨v0, vs0, d0, ds0, p0, q0, hargs, rfl, rfl, h0, r0⟩ := trodAll_cons hA
  obtain ⟨v1, vs1, d1, ds1, p1, q1, rfl, rfl, rfl, h1, r1⟩ := trodAll_cons r0
  obtain ⟨v2, vs2, d2, ds2, p2, q2, rfl, rfl, rfl, h2, r2⟩ := trodAll_cons r1
  obtain ⟨v3, vs3, d3, ds3, p3, q3, rfl, rfl, rfl, h3, r3⟩ := trodAll_cons r2
  obtain ⟨rfl, rfl, rfl⟩ := trodAll_nil r3
  obtain rfl : args = #[v0, v1, v2, v3] := by cases args; simp_all
  obtain ⟨rfl, rfl⟩ := trodVars_none hV
  have h0k := h0
  obtain ⟨x0, o0, rfl, f0⟩ := open_msg_few (hval 0 51 v0 rfl rfl) h0 hsz 0 rfl rfl
  obtain ⟨n1, rfl, rfl, rfl, w1⟩ := open_int Tryz.underlying3 (hval 1 3 v1 rfl rfl) h1
  obtain ⟨n2, rfl, rfl, rfl, w2⟩ := open_int Tryz.underlying5 (hval 2 5 v2 rfl rfl) h2
  obtain ⟨s3, rfl, rfl, rfl, w3⟩ := open_string Tryz.underlying9 (hval 3 9 v3 rfl rfl) h3
  have HK := kinds_of_laid hL
  clear hA0 hval0 hL
  simp only [List.append_nil] at hW'
  refine (protoCut_walk W HK x0 o0 f0 n1 (bounds_i64 w1).1 (bounds_i64 w1).2 n2 (bounds_u8 w2).1 (bounds_u8 w2).2 s3 w3).mono fun e W' ⟨he, hg⟩ => ?_
  subst he
  have hlt : ∀ x ∈ p0, x.block < W.heap.size := fun x hx => by simpa using hW'.lt x hx
  exact ⟨_, rfl, post_of_wider (pv := []) hW' (fun _ _ _ => (trodAll_cons_mk (shut_bool Tryz.underlying4 _) trodAll_mk0)) (fun sp hsp => (trodAll_cons_mk (WideElems.Trod_stays laid3 (by kernel_rfl) (of_decide_eq_true (by kernel_rfl)) h0k (fun x hx => wsame hg (hlt x (by simp [hx]))) (fun x hx => hsp x (by simp [hx]))) (trodAll_cons_mk (shut_int Tryz.underlying3 w1) (trodAll_cons_mk (shut_int Tryz.underlying5 w2) (trodAll_cons_mk (shut_string Tryz.underlying9 w3) trodAll_mk0))))) (fun _ _ => rfl) (by simp)
    hg (ok_one (by kernel_rfl) rfl (okWide_bool_mk Tryz.underlying4 _))⟩

theorem protoCut_holds : Rows.ProtoCutSaid :=
  OpenClaim.holds_of_wide 9 Tryz.f9 rfl rfl rfl rfl rfl rfl rfl ⟨rfl, rfl, rfl, rfl, rfl⟩ rfl rfl rfl rfl rfl (by kernel_rfl) Tryz.func9 (by kernel_rfl)
    (of_decide_eq_true (by kernel_rfl)) (by unfold Func.isWrapper; first | (rw [if_pos (by decide +kernel)]; kernel_rfl) | (rw [if_neg (by decide +kernel)]; exact ⟨rfl, rfl⟩))
    (fun os started H enc _ => protoCut_lifted os started H enc)

theorem protoCut_card : Rows.ProtoCutCardSaid :=
  Claim7.holds_tied_plain_at .later [] [.data] true Rows.protoCutCard.stood.harness true
    protoCut_holds (fun _ h => by cases h) (by kernel_rfl) (fun _ h => by cases h) protoCut_row_tie rfl ⟨rfl, rfl⟩ (by kernel_rfl) rfl
    (fun f fn hf hfn => by
      obtain rfl : f = 9 := Option.some.inj ((show Tryz.prog.funcNamed "turnout/turnoutlaw09.ProtoCut" = some 9 by kernel_rfl).symm.trans hf) |>.symm
      obtain rfl : fn = Tryz.f9 := (Option.some.inj (Tryz.func9.symm.trans hfn)).symm
      exact ⟨by kernel_rfl, fun j t ht => by
        rw [Tryz.params9] at ht
        have hm : t ∈ [51, 3, 5, 9] := by simpa using Array.mem_of_getElem? ht
        have hall : ([51, 3, 5, 9].all fun u => !Tryz.prog.wantsStandIn u) = true := by kernel_rfl
        exact (show Tryz.prog.wantsStandIn t = false by simpa using List.all_eq_true.1 hall t hm)⟩)
    (by kernel_rfl)

end Go.Proofs.YtilpimilbjcifaaGreatDoor
