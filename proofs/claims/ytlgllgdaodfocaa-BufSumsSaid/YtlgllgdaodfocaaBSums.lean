/- The law BufSums: the sum of a part of an even length, and of the part behind it, put together, is that of both; a word put in at an even place changes the sum by itself. No condition. -/
import Derived.Test.YtlgllgdaodfocaaBAwake
import Derived.Test.YtlgllgdaodfocaaFrame
import Derived.Test.YtlgllgdaodfocaaSCode
import Derived.Lib.Hide
import Derived.Deep.DeepCutAuto
import Derived.WalkLawsBesides
import Derived.WalkSpells
import Derived.BigQuiet
import Derived.BigRegion
import Derived.Deep.RegionHeld3
namespace Go.Proofs.Ytlgllgdaodfocaa
set_option linter.unusedVariables false
open Go.ChangeShapes Go.WideShapes Go.ChangeAt Go.RowKit Go.Joins
open Go.ChangeMaps (open_string shut_string)

theorem hsum_1 (s : ByteArray) {r : Nat} (hs : s.size < 1000000) (hr : sumS s.data.toList = r) (W : World) :
    Calls Try.prog 27 #[.slice (some ⟨W.heap.size, 0, none⟩) 1 1] (W.alloc (.cells #[.string s] 9)) fun e w' => e = .returned (.int .u16 (r : Int)) ∧ Wider W w' :=
  (ssum_c _ 1 1 [s] _ (StrsAt.new W [s] 9 #[.string s] rfl) rfl (by decide) (by rw [joinL_one]; exact hs) (by rw [joinL_one]; exact hr)).mono fun _ _ h => ⟨h.1, ((Wider.refl W).alloc _).trans h.2⟩
theorem isW_word (v : Nat) (h : v < 65536) : IsW 0 (v : Int) (BitVec.ofNat 128 v) := by
  refine isW_of (by omega) (by omega) ?_
  rw [BitVec.toNat_ofNat]; omega

set_option maxRecDepth 100000 in
set_option maxHeartbeats 16000000 in
theorem bufSums_walk (s : ByteArray) (hm : s.size ≤ maxLen) (n1 : Int) (n1l : -9223372036854775808 ≤ n1) (n1h : n1 ≤ 9223372036854775807) (n2 : Int) (n2l : -9223372036854775808 ≤ n2) (n2h : n2 ≤ 9223372036854775807) (n3 : Int) (n3l : -9223372036854775808 ≤ n3) (n3h : n3 ≤ 9223372036854775807) (n4 : Int) (n4l : 0 ≤ n4) (n4h : n4 < 65536) (w : World) :
    Calls Try.prog 8 #[.string s, .int .i64 n1, .int .i64 n2, .int .i64 n3, .int .u16 n4] w fun e w' => e = .returned (.bool true) ∧ Wider w w' := by
  unfold maxLen at hm
  have H : Own w w [] := Own.nil (Wider.refl w)
  by_cases h0 : 4000 < s.size
  · have c0 : decide ((4000 : Int) < (s.size : Int)) = true := decide_eq_true (by omega)
    have c1 : decide (4000 < s.size) = true := decide_eq_true h0
    go_enter Try.func8, Try.ntmps8
    go_wp2_with (first
      | (go_at_call 11; ((with_reducible refine (awake5_c _).mono ?_); rintro e wa ⟨rfl, g⟩; replace H := H.quiet g; clear g)))
    go_ret
    exact ⟨rfl, H.wider⟩
  · have c0 : decide ((4000 : Int) < (s.size : Int)) = false := decide_eq_false (by omega)
    have c1 : decide (4000 < s.size) = false := decide_eq_false h0
    obtain ⟨v, rfl⟩ : ∃ v : Nat, n4 = (v : Int) := ⟨n4.toNat, by omega⟩
    have vh : v < 65536 := by omega
    obtain ⟨k, hk⟩ : ∃ P, WithinR s.size n1 P := bwithin_ex _ _ (by omega)
    obtain ⟨x0, hx⟩ : ∃ P, WithinR (s.size - k) n2 P := bwithin_ex _ _ (by omega)
    obtain ⟨x, hxx⟩ : ∃ x : Nat, (x0 : Int) / 2 * 2 = (x : Int) := ⟨x0 / 2 * 2, by omega⟩
    have k1 := hk.2; have x1 := hx.2
    have x2 : x ≤ s.size - k := by omega
    have x3 : x % 2 = 0 := by omega
    obtain ⟨y, hy⟩ : ∃ P, WithinR (s.size - k - x) n3 P := bwithin_ex _ _ (by omega)
    have y1 := hy.2
    have zk := within_c s.size n1 (s.size : Int) rfl (by omega) n1l n1h hk
    have zx := within_c (s.size - k) n2 ((s.size : Int) - (k : Int)) (by omega) (by omega) n2l n2h hx
    have zy := within_c (s.size - k - x) n3 ((s.size : Int) - (k : Int) - (x : Int)) (by omega) (by omega) n3l n3h hy
    have sz : k + x + y ≤ s.size := by omega
    obtain ⟨a, ha⟩ : ∃ a, sumS (s.extract k (k + x)).data.toList = a := ⟨_, rfl⟩
    obtain ⟨b, hb⟩ : ∃ b, sumS (s.extract (k + x) (k + x + y)).data.toList = b := ⟨_, rfl⟩
    obtain ⟨c, hc⟩ : ∃ c, sumS (s.extract k (k + x + y)).data.toList = c := ⟨_, rfl⟩
    have la : a < 65536 := by rw [← ha]; exact sumS_lt _
    have lb : b < 65536 := by rw [← hb]; exact sumS_lt _
    have lc : c < 65536 := by rw [← hc]; exact sumS_lt _
    have st := sum_two s k x y x3 sz
    rw [ha, hb, hc] at st
    have u1 := bsumR_of s k x (by omega)
    rw [ha] at u1
    have u2 := bsumR_of s (k + x) y (by omega)
    rw [hb, Int.natCast_add] at u2
    have u3 := bsumR_of s k (x + y) (by omega)
    rw [← Nat.add_assoc, hc, Int.natCast_add] at u3
    have a1 := sadd_c a b la lb st
    have se : s.extract k ((k : Int) + (x : Int)).toNat = s.extract k (k + x) := by congr 1
    have a2 := fun W : World => hsum_1 (s.extract k (k + x)) (by rw [ext_size _ _ _ (by omega)]; omega) ha W
    have i1 := insR_of s (k + x) 2 (by omega) (by omega)
    rw [Int.natCast_add] at i1
    have z1 : (insT s (k + x) 2).size = s.size + 2 := insT_size s (k + x) 2 (by omega)
    have j1 := bputR_of (insT s (k + x) 2) (8 * (k + x)) 16 (BitVec.ofNat 128 v) (by decide) (by decide) (by rw [z1]; omega)
    rw [show ((8 * (k + x) : Nat) : Int) = 8 * ((k : Int) + (x : Int)) by omega] at j1
    have hv := isW_word v vh
    have sw := sum_word_in s k x y v x3 sz vh
    have u4 := bsumR_of (putT (insT s (k + x) 2) (8 * (k + x)) 16 (BitVec.ofNat 128 v)) k (x + y + 2) (by rw [putT_size, z1]; omega)
    rw [show k + (x + y + 2) = k + x + y + 2 by omega, sw, hc, show ((x + y + 2 : Nat) : Int) = (x : Int) + (y : Int) + 2 by omega] at u4
    obtain ⟨d, hd⟩ : ∃ d, oc c v = d := ⟨_, rfl⟩
    rw [hd] at u4
    have a3 := sadd_c c v lc vh hd
    have p0 : (0 : Int) ≤ (k : Int) := by omega
    have p1 : (k : Int) ≤ (k : Int) + (x : Int) := by omega
    have p2 : (k : Int) + (x : Int) ≤ (s.size : Int) := by omega
    obtain ⟨E, hE⟩ : ∃ E, s.extract k (k + x) = E := ⟨_, rfl⟩
    rw [hE] at se a2
    obtain ⟨S1, hS1⟩ : ∃ A, insT s (k + x) 2 = A := ⟨_, rfl⟩
    rw [hS1] at i1 j1 u4
    obtain ⟨S2, hS2⟩ : ∃ A, putT S1 (8 * (k + x)) 16 (BitVec.ofNat 128 v) = A := ⟨_, rfl⟩
    rw [hS2] at j1 u4
    clear hk hx hy ha hb hc st z1 sw hd hS1 hS2 n4l n4h
    go_enter Try.func8, Try.ntmps8
    go_upto_region 14 with (first
          | (go_at_call 11; ((with_reducible refine (awake5_c _).mono ?_); rintro e wa ⟨rfl, g⟩; replace H := H.quiet g; clear g))
          | (go_at_call 24; ((with_reducible refine (zk _).mono ?_); rintro e w9 ⟨rfl, rfl⟩))
          | (go_at_call 24; ((with_reducible refine (zx _).mono ?_); rintro e w9 ⟨rfl, rfl⟩))
          | (go_at_call 24; ((with_reducible refine (zy _).mono ?_); rintro e w9 ⟨rfl, rfl⟩))
          | (go_at_call 25; ((with_reducible refine (of_1 s (by omega) H).mono ?_); clear H; rintro e w1 ⟨p, rfl, H⟩))
          | (go_at_call 17; ((with_reducible refine (bsum_1 H (k : Int) (x : Int) (by omega) (by omega) (by omega) (by omega) u1).mono ?_); clear H; rintro e w1 ⟨rfl, H⟩))
          | (go_at_call 17; ((with_reducible refine (bsum_1 H ((k : Int) + (x : Int)) (y : Int) (by omega) (by omega) (by omega) (by omega) u2).mono ?_); clear H; rintro e w1 ⟨rfl, H⟩))
          | (go_at_call 17; ((with_reducible refine (bsum_1 H (k : Int) ((x : Int) + (y : Int)) (by omega) (by omega) (by omega) (by omega) u3).mono ?_); clear H; rintro e w1 ⟨rfl, H⟩))
          | (go_at_call 26; ((with_reducible refine (a1 _).mono ?_); rintro e w2 ⟨rfl, g⟩; replace H := H.quiet g; clear g))
          | (go_at_call 27; ((with_reducible refine (a2 _).mono ?_); rintro e w2 ⟨rfl, g⟩; replace H := H.quiet g; clear g)))
    go_wp2_with (first
          | (go_at_call 13; ((with_reducible refine (bins_1 H ((k : Int) + (x : Int)) 2 (by omega) (by omega) (by omega) (by omega) i1).mono ?_); clear H; rintro e w1 ⟨rfl, H⟩))
          | (go_at_call 15; ((with_reducible refine (bput_1 (H.alloc _) (8 * ((k : Int) + (x : Int))) 16 (BitVec.ofNat 128 v) (by omega) (by omega) (by omega) (by omega) hv j1).mono ?_); clear H; rintro e w1 ⟨rfl, H⟩))
          | (go_at_call 15; ((with_reducible refine (bput_1 H (8 * ((k : Int) + (x : Int))) 16 (BitVec.ofNat 128 v) (by omega) (by omega) (by omega) (by omega) hv j1).mono ?_); clear H; rintro e w1 ⟨rfl, H⟩))
          | (go_at_call 17; ((with_reducible refine (bsum_1 H (k : Int) ((x : Int) + (y : Int) + 2) (by omega) (by omega) (by omega) (by omega) u4).mono ?_); clear H; rintro e w1 ⟨rfl, H⟩))
          | (go_at_call 26; ((with_reducible refine (a3 _).mono ?_); rintro e w2 ⟨rfl, g⟩; replace H := H.quiet g; clear g)))
    go_ret
    exact ⟨rfl, H.wider⟩

set_option maxRecDepth 100000 in
theorem bufSums_lifted (os : Os) (started : os.Started) (H : Type) (enc : TypeId × Value → H) :
    ReturnsInHanded {} Try.checked os 8 .any (Rows.bufSumsSpec.pre6 enc Try.prog Try.f8 Rows.bufSumsRow.domain false) (Rows.bufSumsSpec.post enc Try.prog Try.f8 false true false false) := by
  refine returnsInHanded_of_change (C := Try.checked) own started (by kernel_rfl) Try.func8
    (ChangeSpec.witness6 (enc := enc) (C := Try.checked) false ⟨#[], #[.string ⟨#[]⟩, .int .i64 0, .int .i64 0, .int .i64 0, .int .u16 0], []⟩ 8 (by kernel_rfl) (by kernel_rfl) (by kernel_rfl) (by kernel_rfl)) ?_
  intro W base args ds gs before hval0 hW hcnd _
  have hval : ∀ (j : Nat) t v, Try.f8.params[j]? = some t → args[j]? = some v → Value.okWide Try.prog W .any base t v := hval0
  have hW' := hW
  obtain ⟨p, q, hA0, hV, rfl, hfz, hnd⟩ := hW
  have hA : DataW.TrodAll enc Try.prog W 0 (fun _ => true) true Try.f8.params.toList args.toList ds p := hA0
  rw [Try.params8] at hA hval
  obtain ⟨v0, vs0, d0, ds0, p0, q0, hargs, rfl, rfl, h0, r0⟩ := trodAll_cons hA
  obtain ⟨v1, vs1, d1, ds1, p1, q1, rfl, rfl, rfl, h1, r1⟩ := trodAll_cons r0
  obtain ⟨v2, vs2, d2, ds2, p2, q2, rfl, rfl, rfl, h2, r2⟩ := trodAll_cons r1
  obtain ⟨v3, vs3, d3, ds3, p3, q3, rfl, rfl, rfl, h3, r3⟩ := trodAll_cons r2
  obtain ⟨v4, vs4, d4, ds4, p4, q4, rfl, rfl, rfl, h4, r4⟩ := trodAll_cons r3
  obtain ⟨rfl, rfl, rfl⟩ := trodAll_nil r4
  obtain rfl : args = #[v0, v1, v2, v3, v4] := by cases args; simp_all
  obtain ⟨rfl, rfl⟩ := trodVars_none hV
  obtain ⟨s0, rfl, rfl, rfl, w0⟩ := open_string Try.underlying9 (hval 0 9 v0 rfl rfl) h0
  obtain ⟨n1, rfl, rfl, rfl, w1⟩ := open_int Try.underlying3 (hval 1 3 v1 rfl rfl) h1
  obtain ⟨n2, rfl, rfl, rfl, w2⟩ := open_int Try.underlying3 (hval 2 3 v2 rfl rfl) h2
  obtain ⟨n3, rfl, rfl, rfl, w3⟩ := open_int Try.underlying3 (hval 3 3 v3 rfl rfl) h3
  obtain ⟨n4, rfl, rfl, rfl, w4⟩ := open_int Try.underlying35 (hval 4 35 v4 rfl rfl) h4
  clear hA0 hval0
  simp only [List.append_nil] at hW'
  refine (bufSums_walk s0 w0 n1 (bounds_i64 w1).1 (bounds_i64 w1).2 n2 (bounds_i64 w2).1 (bounds_i64 w2).2 n3 (bounds_i64 w3).1 (bounds_i64 w3).2 n4 (bounds_u16 w4).1 (bounds_u16 w4).2 W).mono fun e W' ⟨he, hg⟩ => ?_
  subst he
  exact ⟨_, rfl, post_of_none hW' (fun _ _ _ => (trodAll_cons_mk (shut_bool Try.underlying4 _) trodAll_mk0)) (fun sp => (trodAll_cons_mk (shut_string Try.underlying9 w0) (trodAll_cons_mk (shut_int Try.underlying3 w1) (trodAll_cons_mk (shut_int Try.underlying3 w2) (trodAll_cons_mk (shut_int Try.underlying3 w3) (trodAll_cons_mk (shut_int Try.underlying35 w4) trodAll_mk0)))))) (fun _ => rfl)
    hg.1 (ok_one (by kernel_rfl) rfl (okWide_bool_mk Try.underlying4 _))⟩

theorem bufSums_holds : Rows.BufSumsSaid :=
  OpenClaim.holds_of_wide 8 Try.f8 rfl rfl rfl rfl rfl rfl rfl ⟨rfl, rfl, rfl, rfl, rfl⟩ rfl rfl rfl rfl rfl (by kernel_rfl) Try.func8 (by kernel_rfl)
    (of_decide_eq_true (by kernel_rfl)) (by unfold Func.isWrapper; first | (rw [if_pos (by decide +kernel)]; kernel_rfl) | (rw [if_neg (by decide +kernel)]; exact ⟨rfl, rfl⟩))
    (fun os started H enc _ => bufSums_lifted os started H enc)

#print axioms bufSums_holds

end Go.Proofs.Ytlgllgdaodfocaa
