/- The law ExactWhatever: what is there does not hang on the row in which keys were put and taken out; a key that was just put, without doubling, taken out again, leaves how far each key is looked for as it was. No condition. -/
import Derived.Test.YtgfdigjnecgliaaELaw
import Derived.Test.YtgfdigjnecgliaaOpen
import Derived.Test.YtgfdigjnecgliaaSOpen
import Derived.StillTailTactics
import Derived.Deep.QuietTactic
namespace Go.Proofs.Ytgfdigjnecgliaa
set_option linter.unusedVariables false
open Go.ChangeShapes Go.WideShapes Go.ChangeAt Go.RowKit Go.Joins
open Go.ChangeMaps (open_string shut_string)
open Tab

theorem looks_all {L : SlotsE} (g : GoodE L) : ∃ f : ByteArray → Nat, ∀ k, LooksE L k (f k) :=
  Classical.axiomOfChoice fun k => by
    obtain ⟨p, hp⟩ := g.look k
    exact ⟨_, p, hp, rfl⟩
/-- The keys from place j on are put anew. -/
structure AnewE (N L : SlotsE) (ks : List ByteArray) (j : Nat) : Prop where
  few : Few N (ks.length - j)
  cnt : cnt N = ks.length - j
  has : ∀ k v, Has N k v ↔ k ∈ ks.drop j ∧ Has L k v
theorem AnewE.new {L : SlotsE} {ks : List ByteArray} : AnewE (List.replicate 8 none) L ks ks.length where
  few := by rw [Nat.sub_self]; exact Few.new
  cnt := by rw [Nat.sub_self]; exact cnt_replicate _
  has k v := ⟨fun h => absurd h (has_empty k v), fun h => by simp at h⟩
theorem drop_next {ks : List ByteArray} {t : Nat} {k : ByteArray} (h : ks[t]? = some k) : ks.drop t = k :: ks.drop (t + 1) := by
  obtain ⟨ht, rfl⟩ := List.getElem?_eq_some_iff.1 h
  exact List.drop_eq_getElem_cons ht
theorem AnewE.not {N L : SlotsE} {ks : List ByteArray} {t : Nat} (h : AnewE N L ks (t + 1)) (hk : KeysE L ks) {k : ByteArray} (hx : ks[t]? = some k) (u : Int) : ¬ Has N k u := fun hu => by
  have m := ((h.has k u).1 hu).1
  have nd : (ks.drop t).Nodup := hk.one.sublist (List.drop_sublist t ks)
  rw [drop_next hx, List.nodup_cons] at nd
  exact nd.1 m
theorem AnewE.put {N N' L : SlotsE} {ks : List ByteArray} {t : Nat} (h : AnewE N L ks (t + 1)) (gL : GoodE L) (hk : KeysE L ks) {k : ByteArray} {v : Int} (hx : ks[t]? = some k) (hv : Has L k v) (f : PutF N k v 0 false N') : AnewE N' L ks t := by
  have ht := (List.getElem?_eq_some_iff.1 hx).1
  have c := f.cnt
  have hc := h.cnt
  simp only [Bool.false_eq_true, if_false] at c
  have fw := h.few.put f
  have e : ks.length - (t + 1) + 1 = ks.length - t := by omega
  rw [e] at fw
  refine ⟨fw, by omega, fun k2 v2 => (f.has k2 v2).trans ?_⟩
  rw [h.has k2 v2, drop_next hx, List.mem_cons]
  constructor
  · rintro (⟨rfl, rfl⟩ | ⟨ne, m, h2⟩)
    · exact ⟨.inl rfl, hv⟩
    · exact ⟨.inr m, h2⟩
  · rintro ⟨rfl | m, h2⟩
    · exact .inl ⟨rfl, Has.one gL h2 hv⟩
    · refine .inr ⟨fun e => ?_, m, h2⟩
      subst e
      have nd : (ks.drop t).Nodup := hk.one.sublist (List.drop_sublist t ks)
      rw [drop_next hx, List.nodup_cons] at nd
      exact nd.1 m
theorem AnewE.all {N L : SlotsE} {ks : List ByteArray} (h : AnewE N L ks 0) (hk : KeysE L ks) (k : ByteArray) (u : Int) : Has N k u ↔ Has L k u := by
  rw [h.has k u, List.drop_zero, hk.mem k]
  exact ⟨fun h => h.2, fun h => ⟨⟨u, h⟩, h⟩⟩

set_option maxRecDepth 20000 in
set_option maxHeartbeats 32000000 in
theorem exactWhatever_walk (w : World) (A : Option Addr) (n cap : Nat) (l : List ActE) (hl : l.length = n) (ha : ActsEAt w A l) (hn : l.length ≤ maxLen) (hz : ∀ y ∈ l, y.Ok) (s : ByteArray) (hs : s.size ≤ maxLen) :
    Calls Try.prog 6 #[.slice A n cap, .string s] w fun e w' => e = .returned (.bool true) ∧ Wider w w' := by
  unfold maxLen at hn hs
  have H : Own w w [] := Own.nil (Wider.refl w)
  have HKS9 : ∀ x ∈ l, x.key.size ≤ 9223372036854775807 := fun x hx => by have := (hz x hx).ks; unfold maxLen at this; omega
  by_cases hb : 5000 ≤ bulkE l
  · have zl := elong_c A n cap l w ha hl (by omega) HKS9 (decide_eq_true hb)
    clear hl ha hn hz hb HKS9
    go_enter Try.func6, Try.ntmps6
    go_wp2_with (first
      | (go_at_call 17; ((with_reducible refine zl.mono ?_); rintro e w9 ⟨rfl, rfl⟩))
      | (go_at_call 7; ((with_reducible refine (awake10_c _).mono ?_); rintro e wa ⟨rfl, g⟩; replace H := H.quiet g; clear g)))
    go_ret
    exact ⟨rfl, H.wider⟩
  · have zl := elong_c A n cap l w ha hl (by omega) HKS9 (decide_eq_false hb)
    clear HKS9
    by_cases hk : 3000 < s.size
    · have c0 : decide ((3000 : Int) < (s.size : Int)) = true := decide_eq_true (by omega)
      have c1 : decide (3000 < s.size) = true := decide_eq_true hk
      clear hl ha hn hz hb
      go_enter Try.func6, Try.ntmps6
      go_wp2_with (first
        | (go_at_call 17; ((with_reducible refine zl.mono ?_); rintro e w9 ⟨rfl, rfl⟩))
        | (go_at_call 7; ((with_reducible refine (awake10_c _).mono ?_); rintro e wa ⟨rfl, g⟩; replace H := H.quiet g; clear g)))
      go_ret
      exact ⟨rfl, H.wider⟩
    · have c0 : decide ((3000 : Int) < (s.size : Int)) = false := decide_eq_false (by omega)
      have c1 : decide (3000 < s.size) = false := decide_eq_false hk
      have HN := Lib.hid hl
      have HA := Lib.hid ha
      have HB : Hid (bulkE l < 5000) := by show bulkE l < 5000; omega
      have sz : s.size < 1000000 := by omega
      clear hl ha hn hz hb
      go_enter Try.func6, Try.ntmps6
      go_upto_region 4 with (first
        | (go_at_call 17; ((with_reducible refine zl.mono ?_); rintro e w9 ⟨rfl, rfl⟩))
        | (go_at_call 7; ((with_reducible refine (awake10_c _).mono ?_); rintro e wa ⟨rfl, g⟩; replace H := H.quiet g; clear g))
        | (go_at_call 18; ((with_reducible refine (emade_1 H A n cap l HA.out HN.out HB.out).mono ?_); clear H; rintro e w1 ⟨p, F, L, rfl, hf, H⟩; have HF := Lib.hid hf; clear hf)))
      clear zl
      have g0 := HF.out.good
      have ll : L.length < 1000000 := by have := HF.out.len; omega
      have l4 : L.length < 400000 := by have := HF.out.len; omega
      obtain ⟨f, hf⟩ := looks_all g0
      obtain ⟨C, hC⟩ : ∃ C, cnt L = C := ⟨_, rfl⟩
      have C5 : C ≤ 500 := by rw [← hC]; exact HF.out.cnt
      have zn := fun (W : World) (G : List Nat) (h : MapAt W p L G) => elen_c h
      rw [hC] at zn
      have zk := fun (W : World) (q : Addr) (Lq : SlotsE) (Fq : List Nat) (h : Own w W [mapT q Lq Fq, mapT p L F]) => ekeys_1 h.swap g0 l4
      rw [hC] at zk
      have zf := fun (W : World) (q : Addr) (G : List Nat) (k : ByteArray) (hk : k.size < 1000000) (h : MapAt W q L G) => elooks_c h g0 ll hk (hf k)
      have HC := Lib.hid hC
      have HG := Lib.hid g0
      have HL := Lib.hid hf
      clear hC hf g0 hk
      go_wp2_with (first
        | (go_at_call 8; ((with_reducible refine (enew_1 H).mono ?_); clear H; rintro e w2 ⟨q, Fq, rfl, H⟩))
        | (go_at_call 15; ((with_reducible refine (zk _ _ _ _ H).mono ?_); clear H; rintro e w3 ⟨B, c2, ks, G, rfl, hks, H⟩; have HK := Lib.hid hks; clear hks)))
      clear zk
      have kl : Hid (ks.length = C) := by have := HK.out.len; rw [HC.out] at this; exact this
      have kz : Hid (∀ k, k ∈ ks → k.size < 1000000) := fun k m => by
        obtain ⟨u, hu⟩ := (HK.out.mem k).1 m
        exact HG.out.keys k u hu
      have HAN : Hid (AnewE (List.replicate 8 none) L ks C) := by rw [← kl.out]; exact AnewE.new
      go_loopw [8] (fun i wr => ∃ j : Nat, j ≤ C ∧ i = .int .i64 ((j : Int) - 1) ∧ ∃ (N : SlotsE) (Fn : List Nat), Hid (AnewE N L ks j) ∧ Own w wr [mapT q N Fn, rowT 9 1 (.slice B C c2) C (cellsS ks), mapT p L G]) (fun i _ => (intOf i + 1).toNat)
      case atStart => exact ⟨C, by omega, rfl, _, _, HAN.out, H.third⟩
      case round =>
        clear H HAN
        obtain ⟨j, hj, hi, N, Fn, HAN, H⟩ := hrel
        by_cases c : j = 0
        · subst c
          have hi2 := hi.trans (show Value.int .i64 (((0 : Nat) : Int) - 1) = Value.int .i64 (-1) from rfl)
          clear hi
          obtain rfl := hi2
          have gN := HAN.out.few.good
          have nl : N.length < 1000000 := by have := HAN.out.few.len; have := kl.out; omega
          have cN : Hid (cnt N = C) := by have := HAN.out.cnt; rw [kl.out, Nat.sub_zero] at this; exact this
          have HE : Hid (∀ k u, Has N k u ↔ Has L k u) := fun k u => HAN.out.all HK.out k u
          clear HAN
          go_wp2_with (first
            | (go_at_call 11; ((with_reducible refine (zn _ _ H.drop.drop.head).mono ?_); rintro e w5 ⟨rfl, g⟩; replace H := H.quiet g; clear g))
            | (go_at_call 11; ((with_reducible refine (elen_c H.head).mono ?_); rw [cN.out]; rintro e w6 ⟨rfl, g⟩; replace H := H.quiet g; clear g)))
          clear zn cN
          go_loopw [11] (fun i wr => ∃ j : Nat, j ≤ C ∧ i = .int .i64 (j : Int) ∧ Own w wr [mapT q N Fn, rowT 9 1 (.slice B C c2) C (cellsS ks), mapT p L G]) (fun i _ => C - (intOf i).toNat)
          case atStart => exact ⟨0, by omega, by simp, H⟩
          case round =>
            clear H
            obtain ⟨j, hj, rfl, H⟩ := hrel
            have j0 : (0 : Int) ≤ (j : Int) := by omega
            by_cases c : j < C
            · have j1 : (j : Int) < (C : Int) := by omega
              obtain ⟨k, hk⟩ : ∃ k, ks[j]? = some k := ⟨ks[j]'(by rw [kl.out]; exact c), List.getElem?_eq_getElem _⟩
              have mk := List.mem_of_getElem? hk
              obtain ⟨u, hu⟩ := (HK.out.mem k).1 mk
              have kzz := kz.out k mk
              have zg := fun (W : World) (h : MapAt W p L G) => eget_c h HG.out ll kzz (v := u) (is := true) (.inl ⟨rfl, hu⟩)
              have zq := fun (W : World) (h : MapAt W q N Fn) => eget_c h gN nl kzz (v := u) (is := true) (.inl ⟨rfl, (HE.out k u).2 hu⟩)
              have sa := H.swap.strs
              cases B with
              | none => exact absurd (sa.none_ rfl) (by intro e; rw [e] at hk; simp at hk)
              | some b =>
                have cb := sa.cell b rfl j k hk
                clear hk mk hu sa
                go_wp2_with (first
                  | (go_at_call 10; ((with_reducible refine (zg _ H.drop.drop.head).mono ?_); rintro e w5 ⟨rfl, g⟩; replace H := H.quiet g; have cb2 := wkeep g cb; clear g))
                  | (go_at_call 10; ((with_reducible refine (zq _ H.head).mono ?_); rintro e w5 ⟨rfl, g⟩; replace H := H.quiet g; clear g)))
                go_roundw
                case rel => exact ⟨j + 1, by omega, by go_num, H⟩
                case measure => simp [intOf]; omega
            · obtain rfl : j = C := by omega
              have i1 : ¬ (j : Int) < (j : Int) := by omega
              have H2 := H.third
              clear H
              go_upto_region 22 with (first
                | (go_at_call 16; ((with_reducible refine (ecopy_1 H2 ll).mono ?_); clear H2; rintro e w6 ⟨r, G2, rfl, H⟩))
                | (go_at_call 9; ((with_reducible refine (eput_1 H HG.out l4 s sz 1).mono ?_); clear H; rintro e w7 ⟨was, had, L2, G3, rfl, hp, H⟩; have HP := Lib.hid hp; clear hp)))
              have PF := Lib.hid (HP.out.facts HG.out sz)
              have g2 := PF.out.good
              have l2 : L2.length < 400000 := by have := PF.out.len; have := HF.out.len; omega
              cases had with
              | true =>
                go_wp2
                go_ret
                exact ⟨rfl, H.wider⟩
              | false =>
                obtain ⟨S, hS⟩ : ∃ S, L.length = S := ⟨_, rfl⟩
                obtain ⟨S2, hS2⟩ : ∃ S2, L2.length = S2 := ⟨_, rfl⟩
                have HS := Lib.hid hS
                have HS2 := Lib.hid hS2
                by_cases e : S2 = S
                · subst e
                  have KEY : Hid (∀ b N2, DelE L2 s b N2 → b = true ∧ N2 = L) := fun b N2 h => put_del HG.out sz HP.out (by rw [HS.out, HS2.out]) h
                  have zr := zf
                  clear hS hS2
                  go_wp2_with (first
                    | (go_at_call 13; ((with_reducible refine (eslots_c H.head g2).mono ?_); rw [HS2.out]; rintro e w8 ⟨rfl, g⟩; replace H := H.quiet g; clear g))
                    | (go_at_call 13; ((with_reducible refine (eslots_c H.second HG.out).mono ?_); rw [HS.out]; rintro e w8 ⟨rfl, g⟩; replace H := H.quiet g; clear g))
                    | (go_at_call 14; ((with_reducible refine (edel_1 H g2 l2 s sz).mono ?_); clear H; rintro e w9 ⟨b9, N2, G4, rfl, hd, H⟩; have hq := KEY.out b9 N2 hd; have hb9 := hq.1; have hn9 := hq.2; clear hq hd; rw [hn9] at H; subst hb9; clear hn9))
                    | (go_at_call 12; ((with_reducible refine (zf _ _ _ _ sz H.head).mono ?_); rintro e w8 ⟨rfl, g⟩; replace H := H.quiet g; clear g))
                    | (go_at_call 12; ((with_reducible refine (zf _ _ _ _ sz H.second).mono ?_); rintro e w8 ⟨rfl, g⟩; replace H := H.quiet g; clear g)))
                  clear KEY PF g2 l2 HP
                  go_loopw [19] (fun i wr => ∃ t : Nat, t ≤ j ∧ i = .int .i64 (t : Int) ∧ Own w wr [mapT r L G4, mapT p L G, mapT q N Fn, rowT 9 1 (.slice B j c2) j (cellsS ks)]) (fun i _ => j - (intOf i).toNat)
                  case atStart => exact ⟨0, by omega, by simp, H⟩
                  case round =>
                    clear H
                    obtain ⟨t, ht, rfl, H⟩ := hrel
                    have t0 : (0 : Int) ≤ (t : Int) := by omega
                    by_cases c : t < j
                    · have t1 : (t : Int) < (j : Int) := by omega
                      obtain ⟨k, hk⟩ : ∃ k, ks[t]? = some k := ⟨ks[t]'(by rw [kl.out]; exact c), List.getElem?_eq_getElem _⟩
                      have kzz := kz.out k (List.mem_of_getElem? hk)
                      obtain ⟨y, hy⟩ : ∃ y, f k = y := ⟨_, rfl⟩
                      have zy := fun (W : World) (q : Addr) (G : List Nat) (h : MapAt W q L G) => zf W q G k kzz h
                      rw [hy] at zy
                      have sa := H.fourth.strs
                      cases B with
                      | none => exact absurd (sa.none_ rfl) (by intro e; rw [e] at hk; simp at hk)
                      | some b =>
                        have cb0 := sa.cell b rfl t k hk
                        clear hk sa hy
                        go_upto_region 29 with (fail)
                        have cb : ∀ W, (∃ x : After wr, W = x.w) → W.cell? (b.add t) = some (.string k) := fun W ⟨x, e⟩ => e ▸ wkeep x.h cb0
                        clear cb0
                        have cq : ∀ x : After wr, x.w.cell? (b.add t) = some (.string k) := fun x => cb _ ⟨x, rfl⟩
                        clear cb
                        refine wp_region_after (by kernel_rfl) (by kernel_rfl) (Wider.refl _) ?_
                        repeat (go_big_quiet_step (first
                          | (go_at_call 12; with_reducible exact quiet_after (zy _ _ _ (H.quiet (After.h _)).head))
                          | (go_at_call 12; with_reducible exact quiet_after (zy _ _ _ (H.quiet (After.h _)).second))))
                        refine wpQuiet_nil ?_
                        rintro _ ⟨y9, rfl⟩
                        replace H := H.quiet y9.h
                        go_wp2
                        go_roundw
                        case rel => exact ⟨t + 1, by omega, by go_num, H⟩
                        case measure => simp [intOf]; omega
                    · obtain rfl : t = j := by omega
                      have i2 : ¬ (t : Int) < (t : Int) := by omega
                      go_wp2
                      go_ret
                      exact ⟨rfl, H.wider⟩
                · have b1 : ((S2 : Int) == (S : Int)) = false := by rw [beq_eq_false_iff_ne]; omega
                  have b2 : ¬ (S2 : Int) = (S : Int) := by omega
                  clear hS hS2
                  go_wp2_with (first
                    | (go_at_call 13; ((with_reducible refine (eslots_c H.head g2).mono ?_); rw [HS2.out]; rintro e w8 ⟨rfl, g⟩; replace H := H.quiet g; clear g))
                    | (go_at_call 13; ((with_reducible refine (eslots_c H.second HG.out).mono ?_); rw [HS.out]; rintro e w8 ⟨rfl, g⟩; replace H := H.quiet g; clear g)))
                  go_ret
                  exact ⟨rfl, H.wider⟩
        · obtain ⟨t, rfl⟩ : ∃ t, j = t + 1 := ⟨j - 1, by omega⟩
          have ht : ((t + 1 : Nat) : Int) - 1 = (t : Int) := by omega
          rw [ht] at hi
          obtain rfl := hi
          clear ht
          have t0 : (0 : Int) ≤ (t : Int) := by omega
          have t1 : (t : Int) < (C : Int) := by omega
          obtain ⟨k, hk⟩ : ∃ k, ks[t]? = some k := ⟨ks[t]'(by rw [kl.out]; omega), List.getElem?_eq_getElem _⟩
          have mk := List.mem_of_getElem? hk
          obtain ⟨u, hu⟩ := (HK.out.mem k).1 mk
          have kzz := kz.out k mk
          have no : Hid (∀ u, ¬ Has N k u) := fun u => HAN.out.not HK.out hk u
          have zg := fun (W : World) (h : MapAt W p L G) => eget_c h HG.out ll kzz (v := u) (is := true) (.inl ⟨rfl, hu⟩)
          have nl : N.length < 400000 := by have := HAN.out.few.len; have := kl.out; omega
          have PUT : Hid (∀ N', PutE N k u 0 false N' → AnewE N' L ks t) := fun N' h => HAN.out.put HG.out HK.out hk hu (h.facts HAN.out.few.good kzz)
          have sa := H.swap.strs
          cases B with
          | none => exact absurd (sa.none_ rfl) (by intro e; rw [e] at hk; simp at hk)
          | some b =>
            have cb := sa.cell b rfl t k hk
            clear hk mk hu sa
            go_wp2_with (first
              | (go_at_call 10; ((with_reducible refine (zg _ H.drop.drop.head).mono ?_); rintro e w5 ⟨rfl, g⟩; replace H := H.quiet g; have cb2 := wkeep g cb; clear g))
              | (go_at_call 9; ((with_reducible refine (eput_new H HAN.out.few.good nl k kzz u no.out).mono ?_); clear H; rintro e w6 ⟨rfl, N2, F2, h3, H⟩; have HP := Lib.hid (PUT.out N2 h3); clear h3)))
            go_roundw
            case rel => exact ⟨t, by omega, rfl, N2, F2, HP.out, H⟩
            case measure => simp [intOf] <;> omega

set_option maxRecDepth 100000 in
theorem exactWhatever_lifted (os : Os) (started : os.Started) (H : Type) (enc : TypeId × Value → H) :
    ReturnsInHanded {} Try.checked os 6 .any (Rows.exactWhateverSpec.pre6 enc Try.prog Try.f6 Rows.exactWhateverRow.domain false) (Rows.exactWhateverSpec.post enc Try.prog Try.f6 false true false false) := by
  refine returnsInHanded_of_change (C := Try.checked) own started (by kernel_rfl) Try.func6
    (ChangeSpec.witness6 (enc := enc) (C := Try.checked) false ⟨#[], #[.slice none 0 0, .string ⟨#[]⟩], []⟩ 8 (by kernel_rfl) (by kernel_rfl) (by kernel_rfl) (by kernel_rfl)) ?_
  intro W base args ds gs before hval0 hW hcnd _
  have hval : ∀ (j : Nat) t v, Try.f6.params[j]? = some t → args[j]? = some v → Value.okWide Try.prog W .any base t v := hval0
  have hW' := hW
  obtain ⟨p, q, hA0, hV, rfl, hfz, hnd⟩ := hW
  have hA : DataW.TrodAll enc Try.prog W 0 (fun _ => true) true Try.f6.params.toList args.toList ds p := hA0
  rw [Try.params6] at hA hval
  obtain ⟨v0, vs0, d0, ds0, p0, q0, hargs, rfl, rfl, h0, r0⟩ := trodAll_cons hA
  obtain ⟨v1, vs1, d1, ds1, p1, q1, rfl, rfl, rfl, h1, r1⟩ := trodAll_cons r0
  obtain ⟨rfl, rfl, rfl⟩ := trodAll_nil r1
  obtain rfl : args = #[v0, v1] := by cases args; simp_all
  obtain ⟨rfl, rfl⟩ := trodVars_none hV
  have h0k := h0
  obtain ⟨A0, len0, cap0, rfl⟩ := okWide_slice Try.underlying34 (hval 0 34 v0 rfl rfl)
  obtain ⟨fuel0, hf0⟩ := h0
  obtain ⟨l0, hl0, ha0, hm0, hz0⟩ := open_actsE hf0
  obtain ⟨s1, rfl, rfl, rfl, w1⟩ := open_string Try.underlying9 (hval 1 9 v1 rfl rfl) h1
  clear hA0 hval0
  simp only [List.append_nil] at hW'
  refine (exactWhatever_walk W A0 len0 cap0 l0 hl0 ha0 hm0 hz0 s1 w1).mono fun e W' ⟨he, hg⟩ => ?_
  subst he
  have hlt : ∀ x ∈ p0, x.block < W.heap.size := fun x hx => by simpa using hW'.lt x hx
  exact ⟨_, rfl, post_of_wider (pv := []) hW' (fun _ _ _ => (trodAll_cons_mk (shut_bool Try.underlying4 _) trodAll_mk0)) (fun sp hsp => (trodAll_cons_mk (WideElems.Trod_stays laid3 (by kernel_rfl) (of_decide_eq_true (by kernel_rfl)) h0k (fun x hx => wsame hg (hlt x (by simp [hx]))) (fun x hx => hsp x (by simp [hx]))) (trodAll_cons_mk (shut_string Try.underlying9 w1) trodAll_mk0))) (fun _ _ => rfl) (by simp)
    hg (ok_one (by kernel_rfl) rfl (okWide_bool_mk Try.underlying4 _))⟩

theorem exactWhatever_holds : Rows.ExactWhateverSaid :=
  OpenClaim.holds_of_wide 6 Try.f6 rfl rfl rfl rfl rfl rfl rfl ⟨rfl, rfl, rfl, rfl, rfl⟩ rfl rfl rfl rfl rfl (by kernel_rfl) Try.func6 (by kernel_rfl)
    (of_decide_eq_true (by kernel_rfl)) (by unfold Func.isWrapper; first | (rw [if_pos (by decide +kernel)]; kernel_rfl) | (rw [if_neg (by decide +kernel)]; exact ⟨rfl, rfl⟩))
    (fun os started H enc _ => exactWhatever_lifted os started H enc)

#print axioms exactWhatever_holds

end Go.Proofs.Ytgfdigjnecgliaa
