/- The law ExactNames: the examples, the empty key, how the slots are doubled, nobody's map. No condition. -/
import Derived.Test.YtgfdigjnecgliaaELaw
import Derived.Test.YtgfdigjnecgliaaOpen
import Derived.Test.YtgfdigjnecgliaaSOpen
import Derived.StillTailTactics
import Derived.Deep.QuietTactic
namespace Go.Proofs.Ytgfdigjnecgliaa
set_option linter.unusedVariables false
open Go.ChangeShapes Go.WideShapes Go.ChangeAt Go.RowKit Go.Joins
open Go.ChangeMaps (open_string shut_string)
open Tab

/-- The key of a number. -/
def twoT (i : Nat) : ByteArray := strOfNums [((i / 256 : Nat) : Int), ((i % 256 : Nat) : Int)]
theorem twoT_data (i : Nat) : (twoT i).data.toList = [UInt8.ofNat (i / 256), UInt8.ofNat (i % 256)] := by
  unfold twoT
  rw [strOfNums_data]
  simp only [List.map_cons, List.map_nil, Int.toNat_natCast]
theorem twoT_size (i : Nat) : (twoT i).size = 2 := by rw [size_data, twoT_data]; rfl
theorem twoT_inj {i j : Nat} (hi : i < 65536) (hj : j < 65536) (h : twoT i = twoT j) : i = j := by
  have e := congrArg (fun s => s.data.toList) h
  simp only [twoT_data, List.cons.injEq, and_true] at e
  have e1 := congrArg UInt8.toNat e.1
  have e2 := congrArg UInt8.toNat e.2
  simp at e1 e2
  omega
theorem twoT_ne (i : Nat) : twoT i ≠ ⟨#[]⟩ := fun e => by
  have := twoT_size i
  rw [e] at this
  cases this
theorem two_conv (i : Nat) (B : Nat) (W : World) (h0 : W.cell? ⟨B, 0, none⟩ = some (.int .u8 ((i / 256 : Nat) : Int))) (h1 : W.cell? ⟨B, 1, none⟩ = some (.int .u8 ((i % 256 : Nat) : Int))) : (convert 30 9 (.slice (some ⟨B, 0, none⟩) 2 2)).run Try.prog W = .ok (.string (twoT i)) W :=
  run_convert_bytes_arg (P := Try.prog) W 30 5 Try.underlying30 Try.underlying5 B 0 2 2 [((i / 256 : Nat) : Int), ((i % 256 : Nat) : Int)] rfl (fun j hj => by
    rw [Nat.zero_add]
    match j, hj with
    | 0, _ => exact h0
    | 1, _ => exact h1
    | j + 2, h => omega) 9 Try.underlying9
/-- The empty key and those of a .. b - 1 are there. -/
structure NamE (L : SlotsE) (a b : Nat) : Prop where
  good : GoodE L
  cnt : cnt L = 1 + (b - a)
  has : ∀ k v, Has L k v ↔ (k = ⟨#[]⟩ ∧ v = -3) ∨ ∃ m, a ≤ m ∧ m < b ∧ k = twoT m ∧ v = (m : Int)
theorem NamE.not {L : SlotsE} {a b : Nat} (h : NamE L a b) (hb : b ≤ 301) {i : Nat} (hi : i < a ∨ b ≤ i) (h9 : i ≤ 301) (u : Int) : ¬ Has L (twoT i) u := fun hu => by
  rcases (h.has _ _).1 hu with ⟨e, _⟩ | ⟨m, h1, h2, e, _⟩
  · exact twoT_ne i e
  · have := twoT_inj (by omega) (by omega) e
    omega
theorem NamE.put {L L' : SlotsE} {a b : Nat} (h : NamE L a b) (ha : a ≤ b) (f : PutF L (twoT b) (b : Int) 0 false L') : NamE L' a (b + 1) := by
  have c := f.cnt
  have hc := h.cnt
  simp only [Bool.false_eq_true, if_false] at c
  refine ⟨f.good, by omega, fun k v => (f.has k v).trans ?_⟩
  rw [h.has k v]
  constructor
  · rintro (⟨rfl, rfl⟩ | ⟨ne, h | ⟨m, h1, h2, h3, h4⟩⟩)
    · exact .inr ⟨b, ha, by omega, rfl, rfl⟩
    · exact .inl h
    · exact .inr ⟨m, h1, by omega, h3, h4⟩
  · rintro (⟨rfl, rfl⟩ | ⟨m, h1, h2, h3, h4⟩)
    · exact .inr ⟨fun e => twoT_ne b e.symm, .inl ⟨rfl, rfl⟩⟩
    · by_cases q : k = twoT b
      · by_cases qm : m = b
        · subst qm; exact .inl ⟨q, h4⟩
        · exfalso
          have hv : Has L k v := (h.has k v).2 (.inr ⟨m, h1, by omega, h3, h4⟩)
          rw [q] at hv
          rcases f.get with ⟨e, _⟩ | ⟨_, _, hn⟩
          · cases e
          · exact hn v hv
      · refine .inr ⟨q, .inr ⟨m, h1, ?_, h3, h4⟩⟩
        have : m ≠ b := fun e => by subst e; exact q h3
        omega
theorem NamE.del {L L' : SlotsE} {a b : Nat} (h : NamE L a b) (ha : a < b) (hb : b ≤ 301) {r : Bool} (f : DelF L (twoT a) r L') : NamE L' (a + 1) b := by
  have c := f.cnt
  have hc := h.cnt
  obtain rfl := f.was.2 ⟨(a : Int), (h.has _ _).2 (.inr ⟨a, Nat.le_refl _, ha, rfl, rfl⟩)⟩
  rw [if_pos rfl] at c
  refine ⟨f.good, by omega, fun k v => (f.has k v).trans ?_⟩
  rw [h.has k v]
  constructor
  · rintro ⟨h | ⟨m, h1, h2, h3, h4⟩, ne⟩
    · exact .inl h
    · refine .inr ⟨m, ?_, h2, h3, h4⟩
      have : m ≠ a := fun e => by subst e; exact ne h3
      omega
  · rintro (⟨rfl, rfl⟩ | ⟨m, h1, h2, rfl, h4⟩)
    · exact ⟨.inl ⟨rfl, rfl⟩, fun e => twoT_ne a e.symm⟩
    · refine ⟨.inr ⟨m, by omega, h2, rfl, h4⟩, fun e => ?_⟩
      have := twoT_inj (by omega) (by omega) e
      omega
theorem pow_1024 {n : Nat} (h : ∃ j, n = 8 * 2 ^ j) (h1 : 600 ≤ n) (h2 : n < 1204) : n = 1024 := by
  obtain ⟨j, rfl⟩ := h
  rcases Nat.lt_or_ge j 7 with c | c
  · have := Nat.pow_le_pow_right (n := 2) (by omega) (show j ≤ 6 by omega)
    have e : (2 : Nat) ^ 6 = 64 := by decide
    omega
  · rcases Nat.lt_or_ge 7 j with d | d
    · have := Nat.pow_le_pow_right (n := 2) (by omega) (show 8 ≤ j by omega)
      have e : (2 : Nat) ^ 8 = 256 := by decide
      omega
    · obtain rfl : j = 7 := by omega
      rfl
theorem len_next {L L' : SlotsE} {k : ByteArray} {v : Int} (f : PutF L k v 0 false L') {b : Nat} (hb : cnt L + 1 = b) : (2 * b ≤ L.length → L'.length = L.length) ∧ (L.length < 2 * b → L'.length = 2 * L.length) := by
  subst hb
  exact ⟨f.fits, f.more rfl⟩
set_option maxRecDepth 20000 in
set_option maxHeartbeats 16000000 in
theorem exactNames_walk (w : World) : Calls Try.prog 3 #[] w fun e w' => e = .returned (.bool true) ∧ Wider w w' := by
  have H : Own w w [] := Own.nil (Wider.refl w)
  obtain ⟨L0, hL0⟩ : ∃ L0 : SlotsE, L0 = List.replicate 8 none := ⟨_, rfl⟩
  have g0 : GoodE L0 := hL0 ▸ GoodE.new
  have n0 : Hid (∀ k u, ¬ Has L0 k u) := by subst hL0; exact has_empty
  have HE := Lib.hid hL0.symm
  have HL : Hid (L0.length = 8) := by rw [hL0]; exact Lib.hid (by simp)
  have HC : Hid (cnt L0 = 0) := by rw [hL0]; exact cnt_replicate _
  have ll0 : L0.length < 400000 := by rw [hL0]; simp
  clear hL0
  go_enter Try.func3, Try.ntmps3
  go_upto_region 5 with (first
    | (go_at_call 7; ((with_reducible refine (awake10_c _).mono ?_); rintro e wa ⟨rfl, g⟩; replace H := H.quiet g; clear g))
    | (go_at_call 8; ((with_reducible refine (enew_1 H).mono ?_); clear H; rintro e w1 ⟨p, F, rfl, H⟩; rw [HE.out] at H))
    | (go_at_call 9; ((with_reducible refine (eput_new H g0 ll0 ⟨#[]⟩ (by decide) (-3) (n0.out _)).mono ?_); clear H; rintro e w3 ⟨rfl, L1, F1, h1, H⟩; have f1 := Lib.hid (h1.facts g0 (by decide)); clear h1)))
  have g1 := f1.out.good
  have a1 : Has L1 ⟨#[]⟩ (-3) := (f1.out.has _ _).2 (.inl ⟨rfl, rfl⟩)
  have c1 : Hid (cnt L1 = 1) := by have := f1.out.cnt; rw [HC.out] at this; exact this
  have l1 : Hid (L1.length = 8) := by have := f1.out.fits (by rw [HC.out, HL.out]; omega); rw [HL.out] at this; exact this
  have ll1 : L1.length < 400000 := by have := l1.out; omega
  have N1 : Hid (NamE L1 2 2) := ⟨g1, c1.out, fun k v => (f1.out.has k v).trans ⟨fun h => by
      rcases h with h | ⟨_, h⟩
      · exact .inl h
      · exact absurd h (n0.out k v), fun h => by
      rcases h with h | ⟨m, h1, h2, _⟩
      · exact .inl h
      · omega⟩⟩
  obtain ⟨d, hd⟩ : ∃ d, LooksE L1 ⟨#[]⟩ d := by
    obtain ⟨q, hq⟩ := g1.look ⟨#[]⟩
    exact ⟨_, q, hq, rfl⟩
  obtain rfl : d = 1 := by
    have sh := hd.short
    rw [c1.out] at sh
    have := sh.2.2 ⟨_, a1⟩ g1.inv
    omega
  have zg := fun (W : World) (h : MapAt W p L1 F1) => eget_c (k := ⟨#[]⟩) (v := -3) (is := true) h g1 (by omega) (by decide) (.inl ⟨rfl, a1⟩)
  have zd := fun (W : World) (h : MapAt W p L1 F1) => elooks_c (k := ⟨#[]⟩) h g1 (by omega) (by decide) hd
  clear f1 a1 hd
  go_wp2_with (first
    | (go_at_call 10; ((with_reducible refine (zg _ H.head).mono ?_); rintro e w5 ⟨rfl, g⟩; replace H := H.quiet g; clear g))
    | (go_at_call 12; ((with_reducible refine (zd _ H.head).mono ?_); rintro e w5 ⟨rfl, g⟩; replace H := H.quiet g; clear g))
    | (go_at_call 11; ((with_reducible refine (elen_c H.head).mono ?_); rw [c1.out]; rintro e w6 ⟨rfl, g⟩; replace H := H.quiet g; clear g)))
  clear zg zd c1 g1 ll1
  go_loopw [4, 5] (fun v i wr => ∃ b : Nat, 2 ≤ b ∧ b ≤ 301 ∧ i = .int .i64 (b : Int) ∧ ∃ (M : Nat) (L : SlotsE) (F : List Nat), v = .int .i64 (M : Int) ∧ Hid (L.length = M) ∧ M ≤ 8 + 4 * b ∧ (M = 8 ∨ M < 4 * b) ∧ Hid (NamE L 2 b) ∧ Own w wr [mapT p L F]) (fun _ i _ => 301 - (intOf i).toNat)
  case atStart => exact ⟨2, by omega, by omega, by simp, 8, L1, F1, rfl, l1, by omega, .inl rfl, N1, H⟩
  case round =>
    clear H l1 N1
    obtain ⟨b, b2, b3, rfl, M, L, F, rfl, HM, hM, hM8, HN, H⟩ := hrel
    have ll : L.length < 400000 := by have := HM.out; omega
    by_cases c : b ≤ 300
    · have i1 : (b : Int) ≤ 300 := by omega
      obtain ⟨x, hx⟩ : ∃ x, b / 256 = x := ⟨_, rfl⟩
      obtain ⟨y, hy⟩ : ∃ y, b % 256 = y := ⟨_, rfl⟩
      have x1 : (b : Int) / 256 = (x : Int) := by omega
      have x2 : IntKind.u8.wrap (x : Int) = (x : Int) := by simp [IntKind.wrap, IntKind.bits, IntKind.signed]; omega
      have y1 : (b : Int) % 256 = (y : Int) := by omega
      have hcv := fun W B h0 h1 => two_conv b B W h0 h1
      rw [hx, hy] at hcv
      have n2 := new2 wr (.int .u8 (x : Int)) (.int .u8 (y : Int)) 5
      have hcv2 := hcv _ _ n2.1 n2.2.1
      have H2 := H.quiet ((Wider.refl wr).alloc (.cells #[.int .u8 (x : Int), .int .u8 (y : Int)] 5))
      have no : Hid (∀ u, ¬ Has L (twoT b) u) := fun u => HN.out.not (by omega) (.inr (Nat.le_refl _)) (by omega) u
      have sz : (twoT b).size < 1000000 := by rw [twoT_size]; omega
      have x3 : (b : Int) % 256 = (y : Int) := by omega
      clear hx hy hcv H n2
      go_upto_region 13 with (first
        | (go_at_call 9; ((with_reducible refine (eput_new H2 HN.out.good ll (twoT b) sz (b : Int) no.out).mono ?_); clear H2; rintro e w6 ⟨rfl, L3, F3, h3, H⟩; have HP := Lib.hid (h3.facts HN.out.good sz); clear h3)))
      have g3 := HP.out.good
      have HN3 := Lib.hid (HN.out.put b2 HP.out)
      have cb : cnt L + 1 = b := by have := HN.out.cnt; omega
      have ln := len_next HP.out cb
      rw [HM.out] at ln
      have C3 : Hid (((cnt L3 : Nat) : Int) = (b : Int)) := by have := HN3.out.cnt; show _ = _; omega
      clear HP hcv2 no sz cb x1 x2 y1 x3
      by_cases q : 2 * b ≤ M
      · have l3 := Lib.hid (ln.1 q)
        have d1 : ¬ (M : Int) < 2 * (b : Int) := by omega
        have d2 : decide ((M : Int) < 2 * (b : Int)) = false := decide_eq_false d1
        clear ln
        go_wp2_with (first
          | (go_at_call 13; ((with_reducible refine (eslots_c H.head g3).mono ?_); rw [l3.out]; rintro e w6 ⟨rfl, g⟩; replace H := H.quiet g; clear g))
          | (go_at_call 11; ((with_reducible refine (elen_c H.head).mono ?_); rw [C3.out]; rintro e w6 ⟨rfl, g⟩; replace H := H.quiet g; clear g)))
        go_roundw
        case rel => exact ⟨b + 1, by omega, by omega, by go_num, M, L3, F3, rfl, l3, by omega, by omega, HN3, H⟩
        case measure => simp [intOf]; omega
      · have l3 := Lib.hid (ln.2 (by omega))
        have l4 : Hid (((L3.length : Nat) : Int) = 2 * (M : Int)) := by have := l3.out; show _ = _; omega
        have d1 : (M : Int) < 2 * (b : Int) := by omega
        have d2 : decide ((M : Int) < 2 * (b : Int)) = true := decide_eq_true d1
        clear ln
        go_wp2_with (first
          | (go_at_call 13; ((with_reducible refine (eslots_c H.head g3).mono ?_); rw [l4.out]; rintro e w6 ⟨rfl, g⟩; replace H := H.quiet g; clear g))
          | (go_at_call 11; ((with_reducible refine (elen_c H.head).mono ?_); rw [C3.out]; rintro e w6 ⟨rfl, g⟩; replace H := H.quiet g; clear g)))
        go_roundw
        case rel => exact ⟨b + 1, by omega, by omega, by go_num, 2 * M, L3, F3, by first | rfl | (congr 1), l3, by omega, by omega, HN3, H⟩
        case measure => simp [intOf]; omega
    · obtain rfl : b = 301 := by omega
      have d0 : ¬ (301 : Int) ≤ 300 := by omega
      have hl : Hid (L.length = 1024) := by
        have h2 := HN.out.good.half
        have h3 := HN.out.cnt
        exact pow_1024 HN.out.good.pow (by omega) (by have := HM.out; omega)
      clear hM hM8 HM c b3 b2
      go_wp2
      go_loopw [6] (fun i wr => ∃ a : Nat, 2 ≤ a ∧ a ≤ 301 ∧ i = .int .i64 (a : Int) ∧ ∃ (L : SlotsE) (F : List Nat), Hid (L.length = 1024) ∧ Hid (NamE L a 301) ∧ Own w wr [mapT p L F]) (fun i _ => 301 - (intOf i).toNat)
      case atStart => exact ⟨2, by omega, by omega, by simp, L, F, hl, HN, H⟩
      case round =>
        clear H HN hl ll
        obtain ⟨a, a2, a3, rfl, L, F, hl, HN, H⟩ := hrel
        have ll : L.length < 400000 := by have := hl.out; omega
        by_cases c : a ≤ 300
        · have i1 : (a : Int) ≤ 300 := by omega
          obtain ⟨x, hx⟩ : ∃ x, a / 256 = x := ⟨_, rfl⟩
          obtain ⟨y, hy⟩ : ∃ y, a % 256 = y := ⟨_, rfl⟩
          have x1 : (a : Int) / 256 = (x : Int) := by omega
          have x2 : IntKind.u8.wrap (x : Int) = (x : Int) := by simp [IntKind.wrap, IntKind.bits, IntKind.signed]; omega
          have y1 : (a : Int) % 256 = (y : Int) := by omega
          have hcv := fun W B h0 h1 => two_conv a B W h0 h1
          rw [hx, hy] at hcv
          have n2 := new2 wr (.int .u8 (x : Int)) (.int .u8 (y : Int)) 5
          have hcv2 := hcv _ _ n2.1 n2.2.1
          have H2 := H.quiet ((Wider.refl wr).alloc (.cells #[.int .u8 (x : Int), .int .u8 (y : Int)] 5))
          have sz : (twoT a).size < 1000000 := by rw [twoT_size]; omega
          have ha : Has L (twoT a) (a : Int) := (HN.out.has _ _).2 (.inr ⟨a, Nat.le_refl _, by omega, rfl, rfl⟩)
          have zg := fun (W : World) (h : MapAt W p L F) => eget_c (k := twoT a) (v := (a : Int)) (is := true) h HN.out.good (by omega) sz (.inl ⟨rfl, ha⟩)
          clear hx hy hcv H n2
          go_wp2_with (first
            | (go_at_call 10; ((with_reducible refine (zg _ H2.head).mono ?_); rintro e w5 ⟨rfl, g⟩; replace H2 := H2.quiet g; clear g))
            | (go_at_call 14; ((with_reducible refine (edel_is H2 HN.out.good ll (twoT a) sz ⟨_, ha⟩).mono ?_); clear H2; rintro e w7 ⟨rfl, L3, F3, h3, H⟩; have f3 := Lib.hid (h3.facts HN.out.good); clear h3)))
          go_roundw
          case rel => exact ⟨a + 1, by omega, by omega, by go_num, L3, F3, f3.out.len.trans hl.out, HN.out.del (by omega) (by omega) f3.out, H⟩
          case measure => simp [intOf]; omega
        · obtain rfl : a = 301 := by omega
          have g9 := HN.out.good
          have c9 : Hid (cnt L = 1) := HN.out.cnt
          have zk := ekeys_1 H g9 ll
          rw [c9.out] at zk
          clear c a2 a3
          go_upto_region 28 with (first
            | (go_at_call 15; ((with_reducible refine zk.mono ?_); clear H; rintro e w5 ⟨B, c2, ks, G, rfl, hks, H⟩; have HK := Lib.hid hks; clear hks))
            | (go_at_call 9; ((with_reducible refine (enil_put _ _ _).mono ?_); rintro e w6 ⟨rfl, g⟩; replace H := H.quiet g; clear g))
            | (go_at_call 10; ((with_reducible refine (enil_get _ _).mono ?_); rintro e w6 ⟨rfl, g⟩; replace H := H.quiet g; clear g)))
          have hks : ks = [⟨#[]⟩] := by
            have l := HK.out.len
            rw [c9.out] at l
            match ks, l, HK with
            | [k], _, HK =>
              obtain ⟨v, hv⟩ := (HK.out.mem k).1 (.head _)
              rcases (HN.out.has k v).1 hv with ⟨rfl, _⟩ | ⟨m, h1, h2, _⟩
              · rfl
              · omega
          subst hks
          have sa := H.strs
          cases B with
          | none => exact absurd (sa.none_ rfl) (by simp)
          | some b0 =>
            have cb := sa.cell b0 rfl 0 ⟨#[]⟩ rfl
            have cb2 : w6.cell? b0 = some (.string ⟨#[]⟩) := by
              have e : b0.add 0 = b0 := by unfold Addr.add; simp
              rw [← e]; exact cb
            clear sa HK
            go_wp2_with (first
              | (go_at_call 13; ((with_reducible refine (eslots_c H.second g9).mono ?_); rw [hl.out]; rintro e w6 ⟨rfl, g⟩; replace H := H.quiet g; clear g))
              | (go_at_call 14; ((with_reducible refine (enil_del _ _).mono ?_); rintro e w6 ⟨rfl, g⟩; replace H := H.quiet g; clear g))
              | (go_at_call 11; ((with_reducible refine (enil_len _).mono ?_); rintro e w6 ⟨rfl, g⟩; replace H := H.quiet g; clear g))
              | (go_at_call 13; ((with_reducible refine (enil_slots _).mono ?_); rintro e w6 ⟨rfl, g⟩; replace H := H.quiet g; clear g))
              | (go_at_call 12; ((with_reducible refine (enil_looks _ _).mono ?_); rintro e w6 ⟨rfl, g⟩; replace H := H.quiet g; clear g))
              | (go_at_call 15; ((with_reducible refine (enil_keys _).mono ?_); rintro e w6 ⟨rfl, g⟩; replace H := H.quiet g; clear g))
              | (go_at_call 16; ((with_reducible refine (enil_copy _).mono ?_); rintro e w6 ⟨rfl, g⟩; replace H := H.quiet g; clear g)))
            go_ret
            exact ⟨rfl, H.wider⟩

set_option maxRecDepth 100000 in
theorem exactNames_lifted (os : Os) (started : os.Started) (H : Type) (enc : TypeId × Value → H) :
    ReturnsInHanded {} Try.checked os 3 .any (Rows.exactNamesSpec.pre6 enc Try.prog Try.f3 Rows.exactNamesRow.domain false) (Rows.exactNamesSpec.post enc Try.prog Try.f3 false true false false) := by
  refine returnsInHanded_of_change (C := Try.checked) own started (by kernel_rfl) Try.func3
    (ChangeSpec.witness6 (enc := enc) (C := Try.checked) false ⟨#[], #[], []⟩ 8 (by kernel_rfl) (by kernel_rfl) (by kernel_rfl) (by kernel_rfl)) ?_
  intro W base args ds gs before hval0 hW hcnd _
  have hval : ∀ (j : Nat) t v, Try.f3.params[j]? = some t → args[j]? = some v → Value.okWide Try.prog W .any base t v := hval0
  have hW' := hW
  obtain ⟨p, q, hA0, hV, rfl, hfz, hnd⟩ := hW
  have hA : DataW.TrodAll enc Try.prog W 0 (fun _ => true) true Try.f3.params.toList args.toList ds p := hA0
  rw [Try.params3] at hA hval
  obtain ⟨hargs, rfl, rfl⟩ := trodAll_nil hA
  obtain rfl : args = #[] := by cases args; simp_all
  obtain ⟨rfl, rfl⟩ := trodVars_none hV
  clear hA0 hval0
  simp only [List.append_nil] at hW'
  refine (exactNames_walk  W).mono fun e W' ⟨he, hg⟩ => ?_
  subst he
  exact ⟨_, rfl, post_of_none hW' (fun _ _ _ => (trodAll_cons_mk (shut_bool Try.underlying4 _) trodAll_mk0)) (fun sp => trodAll_mk0) (fun _ => rfl)
    hg.1 (ok_one (by kernel_rfl) rfl (okWide_bool_mk Try.underlying4 _))⟩

theorem exactNames_holds : Rows.ExactNamesSaid :=
  OpenClaim.holds_of_wide 3 Try.f3 rfl rfl rfl rfl rfl rfl rfl ⟨rfl, rfl, rfl, rfl, rfl⟩ rfl rfl rfl rfl rfl (by kernel_rfl) Try.func3 (by kernel_rfl)
    (of_decide_eq_true (by kernel_rfl)) (by unfold Func.isWrapper; first | (rw [if_pos (by decide +kernel)]; kernel_rfl) | (rw [if_neg (by decide +kernel)]; exact ⟨rfl, rfl⟩))
    (fun os started H enc _ => exactNames_lifted os started H enc)

#print axioms exactNames_holds

end Go.Proofs.Ytgfdigjnecgliaa
