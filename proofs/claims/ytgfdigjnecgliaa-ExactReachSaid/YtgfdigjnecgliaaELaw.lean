/- Package exact's calls as its statements use them; the helpers made and awake. -/
import Derived.Test.YtgfdigjnecgliaaECodeG
import Derived.Test.YtgfdigjnecgliaaEActs
import Derived.StillTailTactics
namespace Go.Proofs.Ytgfdigjnecgliaa
set_option linter.unusedVariables false
open Go.ChangeShapes Go.WideShapes Go.ChangeAt Go.RowKit Go.Joins
open Tab

theorem eput_new {V w : World} {R : List Thing} {p : Addr} {L : SlotsE} {F : List Nat} (H : Own V w (mapT p L F :: R)) (g : GoodE L) (hl : L.length < 400000) (k : ByteArray) (hk : k.size < 1000000) (v : Int) (hn : ∀ u, ¬ Has L k u) :
    Calls Try.prog 9 #[.pointer (some p), .string k, .int .i64 v] w fun e w' => e = .returned (.tuple #[.int .i64 0, .bool false]) ∧ ∃ L' G, PutE L k v 0 false L' ∧ Own V w' (mapT p L' G :: R) :=
  (eput_1 H g hl k hk v).mono fun e w' ⟨was, had, L', G, h1, h2, h3⟩ => by
    have f := h2.facts g hk
    rcases f.get with ⟨rfl, h⟩ | ⟨rfl, rfl, _⟩
    · exact absurd h (hn was)
    · exact ⟨h1, L', G, h2, h3⟩
theorem eput_old {V w : World} {R : List Thing} {p : Addr} {L : SlotsE} {F : List Nat} (H : Own V w (mapT p L F :: R)) (g : GoodE L) (hl : L.length < 400000) (k : ByteArray) (hk : k.size < 1000000) (v : Int) {u : Int} (hn : Has L k u) :
    Calls Try.prog 9 #[.pointer (some p), .string k, .int .i64 v] w fun e w' => e = .returned (.tuple #[.int .i64 u, .bool true]) ∧ ∃ L' G, PutE L k v u true L' ∧ Own V w' (mapT p L' G :: R) :=
  (eput_1 H g hl k hk v).mono fun e w' ⟨was, had, L', G, h1, h2, h3⟩ => by
    have f := h2.facts g hk
    rcases f.get with ⟨rfl, h⟩ | ⟨rfl, rfl, h⟩
    · obtain rfl := Has.one g h hn
      exact ⟨h1, L', G, h2, h3⟩
    · exact absurd hn (h u)
theorem edel_is {V w : World} {R : List Thing} {p : Addr} {L : SlotsE} {F : List Nat} (H : Own V w (mapT p L F :: R)) (g : GoodE L) (hl : L.length < 400000) (k : ByteArray) (hk : k.size < 1000000) (hn : ∃ u, Has L k u) :
    Calls Try.prog 14 #[.pointer (some p), .string k] w fun e w' => e = .returned (.bool true) ∧ ∃ L' G, DelE L k true L' ∧ Own V w' (mapT p L' G :: R) :=
  (edel_1 H g hl k hk).mono fun e w' ⟨b, L', G, h1, h2, h3⟩ => by
    have f := h2.facts g
    obtain rfl := f.was.2 hn
    exact ⟨h1, L', G, h2, h3⟩
theorem edel_not {V w : World} {R : List Thing} {p : Addr} {L : SlotsE} {F : List Nat} (H : Own V w (mapT p L F :: R)) (g : GoodE L) (hl : L.length < 400000) (k : ByteArray) (hk : k.size < 1000000) (hn : ∀ u, ¬ Has L k u) :
    Calls Try.prog 14 #[.pointer (some p), .string k] w fun e w' => e = .returned (.bool false) ∧ ∃ L' G, DelE L k false L' ∧ Own V w' (mapT p L' G :: R) :=
  (edel_1 H g hl k hk).mono fun e w' ⟨b, L', G, h1, h2, h3⟩ => by
    have f := h2.facts g
    cases b with
    | false => exact ⟨h1, L', G, h2, h3⟩
    | true =>
      obtain ⟨u, hu⟩ := f.was.1 rfl
      exact absurd hu (hn u)
theorem looks_empty (k : ByteArray) : LooksE (List.replicate 8 none) k 1 := by
  have lt : homeE k 8 < 8 := homeE_lt k 8 (by omega)
  refine ⟨homeE k 8, ⟨by rw [List.length_replicate]; exact lt, .inl (tk_replicate _ _), fun q hq hd => ?_⟩, ?_⟩
  · rw [List.length_replicate, D_self] at hd; omega
  · rw [List.length_replicate, D_self]
theorem has_empty (k : ByteArray) (u : Int) : ¬ Has (List.replicate 8 none : SlotsE) k u := fun ⟨p, hp⟩ => by rw [tk_replicate] at hp; cases hp

/-! ### So many acts -/
/-- A map behind at most n Puts. -/
structure Few (L : SlotsE) (n : Nat) : Prop where
  good : GoodE L
  cnt : cnt L ≤ n
  len : L.length ≤ 8 + 4 * n
theorem Few.new : Few (List.replicate 8 none) 0 := ⟨GoodE.new, by rw [cnt_replicate]; omega, by rw [List.length_replicate]; omega⟩
theorem Few.more {L : SlotsE} {n m : Nat} (h : Few L n) (k : n ≤ m) : Few L m := ⟨h.good, Nat.le_trans h.cnt k, by have := h.len; omega⟩
theorem Few.put {L L' : SlotsE} {n : Nat} (h : Few L n) {k : ByteArray} {v was : Int} {had : Bool} (f : PutF L k v was had L') : Few L' (n + 1) := by
  have c := f.cnt
  have hc := h.cnt
  have hl := h.len
  have c2 : Tab.cnt L' ≤ Tab.cnt L + 1 := by rw [c]; split <;> omega
  refine ⟨f.good, by omega, ?_⟩
  rcases f.len with e | ⟨_, a, e⟩ <;> omega
theorem Few.del {L L' : SlotsE} {n : Nat} (h : Few L n) {k : ByteArray} {b : Bool} (f : DelF L k b L') : Few L' n := by
  have c := f.cnt
  have hc := h.cnt
  have hl := h.len
  exact ⟨f.good, by omega, by rw [f.len]; exact hl⟩
/-- What comes in, if it is not too long. -/
theorem acts_small {l : List ActE} (h : bulkE l < 5000) : l.length < 500 ∧ ∀ x ∈ l, x.key.size < 5000 :=
  ⟨by have := bulkE_length l; omega, fun x hx => by have := bulkE_mem hx; omega⟩

set_option maxHeartbeats 8000000 in
theorem emade_1 {V w : World} {R : List Thing} (H : Own V w R) (A : Option Addr) (n cap : Nat) (l : List ActE) (h : ActsEAt V A l) (hn : l.length = n) (hb : bulkE l < 5000) :
    Calls Try.prog 18 #[.slice A n cap] w fun e w' => ∃ p F L, e = .returned (.pointer (some p)) ∧ Few L 500 ∧ Own V w' (mapT p L F :: R) := by
  obtain ⟨hl5, hks⟩ := acts_small hb
  have n5 : n < 500 := by omega
  have HKS := Lib.hid hks
  have HN := Lib.hid hn
  have HA := Lib.hid h
  clear hb hks hn hl5 h
  go_enter Try.func18, Try.ntmps18
  go_wp2_with (first
    | (go_at_call 8; ((with_reducible refine (enew_1 H).mono ?_); clear H; rintro e w1 ⟨p, F, rfl, H⟩)))
  go_loopw [4] (fun i wr => ∃ k : Nat, k ≤ n ∧ i = .int .i64 (k : Int) ∧ ∃ L F, Hid (Few L k) ∧ Own V wr (mapT p L F :: R)) (fun i _ => n - (intOf i).toNat)
  case atStart => exact ⟨0, by omega, by simp, _, _, Few.new, H⟩
  case round =>
    clear H
    obtain ⟨k, hk, rfl, L, F, HF, H⟩ := hrel
    have i0 : (0 : Int) ≤ (k : Int) := by omega
    by_cases c : k < n
    · have i1 : (k : Int) < (n : Int) := by omega
      obtain ⟨x, hx⟩ : ∃ x, l[k]? = some x := ⟨l[k]'(by have := HN.out; omega), List.getElem?_eq_getElem _⟩
      have hsz := HKS.out x (List.mem_of_getElem? hx)
      cases A with
      | none => exact absurd (HA.out.none_ rfl) (by intro e; rw [e] at hx; simp at hx)
      | some a =>
        have at_ := (HA.out.cell a rfl k x hx).on H.wider
        have c0 := at_.c0
        have c1 := at_.flat.1
        have c2 := at_.flat.2
        have ll : L.length < 400000 := by have := HF.out.len; omega
        have kz : x.key.size < 1000000 := by omega
        clear at_ hx
        by_cases q0 : x.what = 0
        · have e0 : ((x.what : Int) == 0) = true := by rw [q0]; rfl
          go_upto_region 7 with (fail)
          go_still_tail 11, (by kernel_rfl)
          change wpList _ _ _ _ _ wr.drew
          have H2 := H.quiet (Wider.refl wr).drew
          clear H
          go_wp2_with (first
            | (go_at_call 9; ((with_reducible refine (eput_1 H2 HF.out.good ll x.key kz x.v).mono ?_); rintro e w2 ⟨was, had, L2, F2, rfl, hp, H3⟩; have HP := Lib.hid hp; clear hp)))
          go_roundw
          case rel => exact ⟨k + 1, by omega, by go_num, L2, F2, HF.out.put (HP.out.facts HF.out.good kz), H3⟩
          case measure => simp [intOf]; omega
        · have e0 : ((x.what : Int) == 0) = false := by rw [beq_eq_false_iff_ne]; omega
          by_cases q1 : x.what = 1
          · have e1 : ((x.what : Int) == 1) = true := by rw [q1]; rfl
            go_wp2_with (first
              | (go_at_call 14; ((with_reducible refine (edel_1 H HF.out.good ll x.key kz).mono ?_); rintro e w2 ⟨b, L2, F2, rfl, hp, H3⟩; have HP := Lib.hid hp; clear hp)))
            go_roundw
            case rel => exact ⟨k + 1, by omega, by go_num, L2, F2, (HF.out.del (HP.out.facts HF.out.good)).more (by omega), H3⟩
            case measure => simp [intOf]; omega
          · have e1 : ((x.what : Int) == 1) = false := by rw [beq_eq_false_iff_ne]; omega
            go_wp2
            go_roundw
            case rel => exact ⟨k + 1, by omega, by go_num, L, F, HF.out.more (by omega), H⟩
            case measure => simp [intOf]; omega
    · have i1 : ¬ (k : Int) < (n : Int) := by omega
      go_wp2
      go_ret
      have HF5 := HF.out.more (show k ≤ 500 by omega)
      first | exact ⟨_, rfl, _, _, HF5, H⟩ | exact ⟨_, _, rfl, _, HF5, H⟩ | exact ⟨_, rfl, _, HF5, _, H⟩ | exact ⟨_, _, _, HF5, rfl, H⟩ | exact ⟨_, _, rfl, HF5, _, H⟩

/-! ### awake -/
/-- A text of one byte. -/
def oneT (i : Nat) : ByteArray := strOfNums [(i : Int)]
theorem oneT_data (i : Nat) : (oneT i).data.toList = [UInt8.ofNat i] := by
  unfold oneT
  rw [strOfNums_data]
  simp
theorem oneT_size (i : Nat) : (oneT i).size = 1 := by rw [size_data, oneT_data]; rfl
theorem oneT_inj {i j : Nat} (hi : i < 256) (hj : j < 256) (h : oneT i = oneT j) : i = j := by
  have e := congrArg (fun s => s.data.toList) h
  simp only [oneT_data, List.cons.injEq, and_true] at e
  have := congrArg UInt8.toNat e
  simp at this
  omega
theorem oneT_97 : oneT 97 = ⟨#[97]⟩ := by apply ba_ext; rw [oneT_data]; rfl
theorem one_conv (i : Nat) (B : Nat) (W : World) (h : W.cell? ⟨B, 0, none⟩ = some (.int .u8 (i : Int))) : (convert 30 9 (.slice (some ⟨B, 0, none⟩) 1 1)).run Try.prog W = .ok (.string (oneT i)) W :=
  run_convert_bytes_arg (P := Try.prog) W 30 5 Try.underlying30 Try.underlying5 B 0 1 1 [(i : Int)] rfl (fun j hj => by
    obtain rfl : j = 0 := by omega
    rw [Nat.zero_add]; exact h) 9 Try.underlying9
/-- Behind j of the four Puts. -/
structure AwkE (L : SlotsE) (j : Nat) : Prop where
  good : GoodE L
  cnt : cnt L = 1 + j
  len : L.length = if j = 4 then 16 else 8
  a : Has L ⟨#[97]⟩ 7
  rest : ∀ m, j ≤ m → m ≤ 4 → ∀ u, ¬ Has L (oneT (98 + m)) u
theorem AwkE.put {L L' : SlotsE} {j : Nat} (h : AwkE L j) (hj : j < 4) {was : Int} {had : Bool} (f : PutF L (oneT (98 + j)) 1 was had L') : AwkE L' (j + 1) := by
  have hh : had = false := by
    rcases f.get with ⟨rfl, g⟩ | ⟨rfl, _, _⟩
    · exact absurd g (h.rest j (Nat.le_refl _) (by omega) was)
    · rfl
  subst hh
  have c := f.cnt
  have hc := h.cnt
  have hl := h.len
  simp only [Bool.false_eq_true, if_false] at c
  rw [if_neg (by omega)] at hl
  refine ⟨f.good, by omega, ?_, (f.has _ _).2 (.inr ⟨fun e => ?_, h.a⟩), fun m h1 h2 u hu => ?_⟩
  · by_cases q : j = 3
    · subst q
      have := f.more rfl (by omega)
      rw [this, hl]; rfl
    · have := f.fits (by omega)
      rw [this, hl, if_neg (by omega)]
  · rw [← oneT_97] at e
    have := oneT_inj (by omega) (by omega) e
    omega
  · rcases (f.has _ _).1 hu with ⟨e, _⟩ | ⟨_, g⟩
    · have := oneT_inj (by omega) (by omega) e
      omega
    · exact h.rest m (by omega) h2 u g
set_option maxRecDepth 20000 in
set_option maxHeartbeats 16000000 in
theorem awake10_c (w : World) : Calls Try.prog 7 #[] w fun e w' => e = .returned (.bool true) ∧ Wider w w' := by
  have H : Own w w [] := Own.nil (Wider.refl w)
  obtain ⟨L0, hL0⟩ : ∃ L0 : SlotsE, L0 = List.replicate 8 none := ⟨_, rfl⟩
  have g0 : GoodE L0 := hL0 ▸ GoodE.new
  have l0 : L0.length = 8 := by rw [hL0]; rfl
  have c0 : cnt L0 = 0 := by rw [hL0]; exact cnt_replicate _
  have k0 : LooksE L0 ⟨#[97, 110, 121]⟩ 1 := hL0 ▸ looks_empty _
  have n0 : Hid (∀ k u, ¬ Has L0 k u) := by subst hL0; exact has_empty
  have HE := Lib.hid hL0.symm
  have HL := Lib.hid l0
  have HC := Lib.hid c0
  have ll0 : L0.length < 400000 := by omega
  clear hL0 l0 c0
  go_enter Try.func7, Try.ntmps7
  go_upto_region 4 with (first
    | (go_at_call 8; ((with_reducible refine (enew_1 H).mono ?_); clear H; rintro e w1 ⟨p, F, rfl, H⟩; rw [HE.out] at H))
    | (go_at_call 12; ((with_reducible refine (elooks_c H.head g0 (by omega) (by decide) k0).mono ?_); rintro e w2 ⟨rfl, g⟩; replace H := H.quiet g; clear g))
    | (go_at_call 13; ((with_reducible refine (eslots_c H.head g0).mono ?_); rw [HL.out]; rintro e w2 ⟨rfl, g⟩; replace H := H.quiet g; clear g)))
  go_upto_region 5 with (first
    | (go_at_call 9; ((with_reducible refine (eput_new H g0 ll0 ⟨#[97]⟩ (by decide) 5 (n0.out _)).mono ?_); clear H; rintro e w3 ⟨rfl, L1, F1, h1, H⟩; have f1 := Lib.hid (h1.facts g0 (by decide)); clear h1)))
  have g1 := f1.out.good
  have a1 : Has L1 ⟨#[97]⟩ 5 := (f1.out.has _ _).2 (.inl ⟨rfl, rfl⟩)
  have c1 : Hid (cnt L1 = 1) := by have := f1.out.cnt; rw [HC.out] at this; exact this
  have l1 : Hid (L1.length = 8) := by have := f1.out.fits (by rw [HC.out, HL.out]; omega); rw [HL.out] at this; exact this
  have ll1 : L1.length < 400000 := by have := l1.out; omega
  have N1 : Hid (∀ m u, m ≤ 4 → ¬ Has L1 (oneT (98 + m)) u) := fun m u hm h => by
    rcases (f1.out.has _ _).1 h with ⟨e, _⟩ | ⟨_, h⟩
    · rw [← oneT_97] at e; have := oneT_inj (by omega) (by omega) e; omega
    · exact n0.out _ _ h
  clear f1
  go_upto_region 6 with (first
    | (go_at_call 9; ((with_reducible refine (eput_old H g1 ll1 ⟨#[97]⟩ (by decide) 7 a1).mono ?_); clear H; rintro e w4 ⟨rfl, L2, F2, h2, H⟩; have f2 := Lib.hid (h2.facts g1 (by decide)); clear h2)))
  have A2 : Hid (AwkE L2 0) := ⟨f2.out.good, by have := f2.out.cnt; rw [c1.out] at this; exact this, by rw [f2.out.room rfl, l1.out]; rfl, (f2.out.has _ _).2 (.inl ⟨rfl, rfl⟩), fun m _ hm u h => by
    rcases (f2.out.has _ _).1 h with ⟨e, _⟩ | ⟨_, h⟩
    · rw [← oneT_97] at e; have := oneT_inj (by omega) (by omega) e; omega
    · exact N1.out m u hm h⟩
  clear a1 c1 l1 ll1 N1 f2 g1
  have ll2 : L2.length < 400000 := by have := A2.out.len; rw [if_neg (by decide)] at this; omega
  have zg := fun (W : World) (h : MapAt W p L2 F2) => eget_c (k := ⟨#[97]⟩) (v := 7) (is := true) h A2.out.good (by omega) (by decide) (.inl ⟨rfl, A2.out.a⟩)
  go_wp2_with (first
    | (go_at_call 10; ((with_reducible refine (zg _ H.head).mono ?_); rintro e w5 ⟨rfl, g⟩; replace H := H.quiet g; clear g)))
  clear ll2 zg
  go_loopw [8] (fun i wr => ∃ m : Nat, 98 ≤ m ∧ m ≤ 102 ∧ i = .int .u8 (m : Int) ∧ ∃ L F, Hid (AwkE L (m - 98)) ∧ Own w wr [mapT p L F]) (fun i _ => 102 - (intOf i).toNat)
  case atStart => exact ⟨98, by omega, by omega, by simp, L2, F2, A2.out, H⟩
  case round =>
    clear H A2
    obtain ⟨m, hm, hj, rfl, L, F, HA, H⟩ := hrel
    have ll : L.length < 400000 := by have := HA.out.len; split at this <;> omega
    by_cases c : m < 102
    · have i1 : (m : Int) < 102 := by omega
      have d1 : decide ((m : Int) < 102) = true := decide_eq_true i1
      have n1 := new1 (wr) (.int .u8 (m : Int)) 5
      have hcv := one_conv m wr.heap.size _ n1
      have H2 := H.quiet ((Wider.refl wr).alloc (.cells #[.int .u8 (m : Int)] 5))
      have em : 98 + (m - 98) = m := by omega
      have ec : Hid ((m : Int) + 1 = ((m + 1 : Nat) : Int)) := by show _ = _; omega
      have no : Hid (∀ u, ¬ Has L (oneT m) u) := fun u h => HA.out.rest (m - 98) (Nat.le_refl _) (by omega) u (by rw [em]; exact h)
      have sz : (oneT m).size < 1000000 := by rw [oneT_size]; omega
      have HAp : Hid (∀ L2, PutF L (oneT m) 1 0 false L2 → AwkE L2 (m + 1 - 98)) := fun L2 f => by
        have q := HA.out.put (L' := L2) (by omega) (was := 0) (had := false) (by rw [em]; exact f)
        rw [show m - 98 + 1 = m + 1 - 98 by omega] at q
        exact q
      clear H em
      go_wp2_with (first
        | (go_at_call 9; ((with_reducible refine (eput_new H2 HA.out.good ll (oneT m) sz 1 no.out).mono ?_); clear H2; rintro e w6 ⟨rfl, L3, F3, h3, H⟩; have HP := Lib.hid (HAp.out L3 (h3.facts HA.out.good sz)); clear h3)))
      go_roundw
      case rel => exact ⟨m + 1, by omega, by omega, by rw [ec.out], L3, F3, HP.out, H⟩
      case measure => simp [intOf]; omega
    · obtain rfl : m = 102 := by omega
      have HA4 : Hid (AwkE L 4) := HA.out
      have d1 : decide ((102 : Int) < 102) = false := rfl
      have HC5 : Hid (cnt L = 5) := HA4.out.cnt
      have HL5 : Hid (L.length = 16) := by have := HA4.out.len; rw [if_pos rfl] at this; exact this
      clear HA c
      go_upto_region 13 with (first
        | (go_at_call 11; ((with_reducible refine (elen_c H.head).mono ?_); rw [HC5.out]; rintro e w6 ⟨rfl, g⟩; replace H := H.quiet g; clear g))
        | (go_at_call 13; ((with_reducible refine (eslots_c H.head HA4.out.good).mono ?_); rw [HL5.out]; rintro e w6 ⟨rfl, g⟩; replace H := H.quiet g; clear g))
        | (go_at_call 14; ((with_reducible refine (edel_is H HA4.out.good ll ⟨#[97]⟩ (by decide) ⟨7, HA4.out.a⟩).mono ?_); clear H; rintro e w7 ⟨rfl, L3, F3, h3, H⟩; have f3 := Lib.hid (h3.facts HA4.out.good); clear h3)))
      have g3 := f3.out.good
      have no3 : Hid (∀ u, ¬ Has L3 ⟨#[97]⟩ u) := fun u h => ((f3.out.has _ _).1 h).2 rfl
      have c3 : Hid (cnt L3 = 4) := by have := f3.out.cnt; rw [HC5.out, if_pos rfl] at this; show _ = _; omega
      have ll3 : L3.length < 400000 := by rw [f3.out.len]; exact ll
      have zg3 := fun (W : World) (h : MapAt W p L3 F3) => eget_c (k := ⟨#[97]⟩) (v := 0) (is := false) h g3 (by omega) (by decide) (.inr ⟨rfl, rfl, no3.out⟩)
      clear f3
      go_wp2_with (first
        | (go_at_call 10; ((with_reducible refine (zg3 _ H.head).mono ?_); rintro e w8 ⟨rfl, g⟩; replace H := H.quiet g; clear g))
        | (go_at_call 14; ((with_reducible refine (edel_not H g3 ll3 ⟨#[97]⟩ (by decide) no3.out).mono ?_); clear H; rintro e w9 ⟨rfl, L4, F4, h4, H⟩; have f4 := Lib.hid (h4.facts g3); clear h4; have c4 : Hid (cnt L4 = 4) := by { have := f4.out.cnt; rw [c3.out] at this; exact this }))
        | (go_at_call 11; ((with_reducible refine (elen_c H.head).mono ?_); rw [c4.out]; rintro e w6 ⟨rfl, g⟩; replace H := H.quiet g; clear g)))
      go_ret
      exact ⟨rfl, H.wider⟩
end Go.Proofs.Ytgfdigjnecgliaa
