/- The document's Encode and List of layer 6: by walks. -/
import Derived.Test.YtemfionibnlniaaTRef
import Derived.WalkKit
import Derived.Lib.Hide
import Derived.Deep.DeepCutAuto
import Derived.WalkLawsBesides
import Derived.WalkSpells
import Derived.BigQuiet
import Derived.BigRegion
import Derived.Deep.RegionHeld3
namespace Go.Proofs.Ytemfionibnlniaa
set_option linter.unusedVariables false
open Go.ChangeShapes Go.WideShapes Go.ChangeAt Go.RowKit Go.Joins
open Go.ChangeMaps (open_string shut_string)


theorem okA_upto (l : List AtN) (k : Nat) {c : Nat} (h : okA 0 (l.take k) = c) (hc : c ≠ 0) : okA 0 l = c := by
  rw [← List.take_append_drop k l, okA_append, if_neg (by rw [h]; exact hc), h]
theorem okT_upto (l : List ByteArray) (k : Nat) {c : Nat} (h : okT (l.take k) = c) (hc : c ≠ 0) : okT l = c := by
  rw [← List.take_append_drop k l, okT_append, if_neg (by rw [h]; exact hc), h]
theorem encA_bad {l : List AtN} {c : Nat} (h : okA 0 l = c) (hc : c ≠ 0) : encA l = ⟨#[]⟩ := by unfold encA; rw [if_neg (by rw [h]; exact hc)]
theorem encA_good {l : List AtN} (h : okA 0 l = 0) : encA l = mkB (bytsA l) := by unfold encA; rw [if_pos h]
theorem encT_bad {l : List ByteArray} {c : Nat} (h : okT l = c) (hc : c ≠ 0) : encT l = ⟨#[]⟩ := by unfold encT; rw [if_neg (by rw [h]; exact hc)]
theorem encT_good {l : List ByteArray} (h : okT l = 0) : encT l = mkB (bytsT l) := by unfold encT; rw [if_pos h]
theorem mkB_append (l m : List UInt8) : mkB l ++ mkB m = mkB (l ++ m) := by
  apply ba_ext; rw [ByteArray.data_append, Array.toList_append, mkB_data, mkB_data, mkB_data]
theorem bytA_text (t : Nat) (s : ByteArray) (l : List UInt8) : mkB l ++ mkB [UInt8.ofNat t] ++ mkB (wordB s.size) ++ s = mkB (l ++ bytA ⟨t, s⟩) := by
  rw [mkB_append, mkB_append]
  apply ba_ext
  rw [ByteArray.data_append, Array.toList_append, mkB_data, mkB_data]
  simp [bytA]
theorem bytT_text (s : ByteArray) (l : List UInt8) : mkB l ++ mkB (wordB s.size) ++ s = mkB (l ++ bytT s) := by
  rw [mkB_append]
  apply ba_ext
  rw [ByteArray.data_append, Array.toList_append, mkB_data, mkB_data]
  simp [bytT]
theorem strOf_one (t : Nat) : strOfNums [(t : Int)] = mkB [UInt8.ofNat t] := by
  apply ba_ext
  rw [strOfNums_data, mkB_data]
  simp only [List.map_cons, List.map_nil, Int.toNat_natCast]
/-- One byte as a text. -/
theorem conv1 (t : Nat) (W : World) (B : Nat) (h : W.cell? ⟨B, 0, none⟩ = some (.int .u8 (t : Int))) :
    (convert 52 9 (.slice (some ⟨B, 0, none⟩) 1 1)).run Try.prog W = .ok (.string (mkB [UInt8.ofNat t])) W := by
  have hc := run_convert_bytes_arg (P := Try.prog) W 52 5 Try.underlying52 Try.underlying5 B 0 1 1 [(t : Int)] rfl (fun i hi => by
    obtain rfl : i = 0 := by omega
    exact h) 9 Try.underlying9
  rw [strOf_one] at hc
  exact hc
theorem new1 (W : World) (v : Value) (t : TypeId) : (W.alloc (.cells #[v] t)).cell? ⟨W.heap.size, 0, none⟩ = some v := by rw [World.cell?_alloc_new]; simp
theorem lastA_prev (l : List AtN) (j : Nat) (y : AtN) (h : l[j]? = some y) : lastA 0 (l.take (j + 1)) = y.t := by rw [take_next l j y h, lastA_snoc]
theorem ne_empty (s : ByteArray) (h : s.size ≠ 0) : s.toList.isEmpty = false ∧ ¬ s.toList = [] := by
  have e : s.toList.length = s.size := by rw [ByteArray.toList_eq]; simp
  constructor
  · cases q : s.toList with
    | nil => rw [q] at e; simp at e; omega
    | cons => rfl
  · intro q; rw [q] at e; simp at e; omega

/-- A claim, marked. -/
def Mark (p : Prop) : Prop := p
theorem mark_out {p : Prop} (h : Mark p) : p := h
theorem mark_iff {p : Prop} (h : p) : Mark p ↔ True := iff_true_intro h
theorem keepA2 {V W : World} {a b : Addr} {u v : Value} {o : Obj} (h : W.cell? a = some u ∧ W.cell? b = some v ∧ Hid (Wider V W)) : (W.alloc o).cell? a = some u ∧ (W.alloc o).cell? b = some v ∧ Hid (Wider V (W.alloc o)) :=
  ⟨kalloc h.1, kalloc h.2.1, halloc2 h.2.2 o⟩
theorem keepW2 {V W w : World} {a b : Addr} {u v : Value} (h : W.cell? a = some u ∧ W.cell? b = some v ∧ Hid (Wider V W)) (g : Wider W w) : w.cell? a = some u ∧ w.cell? b = some v ∧ Hid (Wider V w) :=
  ⟨wkeep g h.1, wkeep g h.2.1, htrans h.2.2 g⟩

set_option maxHeartbeats 8000000 in
theorem renc_c (A : Option Addr) (n cap : Nat) (l : List AtN) (w : World) (h : AtsAt w A l) (hn : l.length = n) (hl : n < 1000000) (hb : (bytsA l).length < 1000000) {T : ByteArray} {r : Nat} (hT : encA l = T) (hr : okA 0 l = r) :
    Calls Try.prog 16 #[.slice A n cap] w fun e w' => e = .returned (.tuple #[.string T, .int .i64 (r : Int)]) ∧ Wider w w' := by
  have HN := Lib.hid hn
  have HT := Lib.hid hT
  have HR := Lib.hid hr
  have HB := Lib.hid hb
  clear hn hT hr hb
  go_enter Try.func16, Try.ntmps16
  go_wp2
  go_loopw [4, 5] (fun v i wr => ∃ k : Nat, k ≤ n ∧ i = .int .i64 (k : Int) ∧ (∃ S : ByteArray, v = .string S ∧ mkB (bytsA (l.take k)) = S) ∧ okA 0 (l.take k) = 0 ∧ Wider w wr) (fun _ i _ => n - (intOf i).toNat)
  case atStart => exact ⟨0, by omega, by simp, ⟨⟨#[]⟩, rfl, rfl⟩, rfl, Wider.refl w⟩
  case round =>
    obtain ⟨k, hk, rfl, ⟨S, rfl, hS⟩, hok, hg⟩ := hrel
    have HS := Lib.hid hS
    have HOK := Lib.hid hok
    have HG := Lib.hid hg
    clear hS hok
    by_cases c : k < n
    · have j0 : (0 : Int) ≤ (k : Int) := by omega
      have j1 : (k : Int) < (n : Int) := by omega
      obtain ⟨x, hx⟩ := next_some l k (by have := HN.out; omega)
      cases A with
      | none => exact absurd (h.none_ rfl) (by intro e; rw [e] at hx; simp at hx)
      | some a =>
        have H := Lib.hid h
        have TK := Lib.hid (take_next l k x hx)
        have HX := Lib.hid hx
        have SN := Lib.hid (okA_snoc (l.take k) 0 x HOK.out)
        obtain ⟨p, hp⟩ : ∃ p, lastA 0 (l.take k) = p := ⟨_, rfl⟩
        have HP := Lib.hid hp
        have hA := (h.cell a rfl k x hx).on hg
        clear hx h hp
        obtain ⟨t, s⟩ := x
        have ⟨c0, c1⟩ := hA
        have d1 := hA.flat
        simp only at c0 c1 d1
        obtain ⟨bad, hbad⟩ : ∃ b : Bool, decide (t ≤ p ∨ s.size = 0) = b := ⟨_, rfl⟩
        have HBAD := Lib.hid hbad
        clear hA hbad
        go_upto_region 5 with fail
        go_cut [43] (fun v wc => v = .bool bad ∧ Hid (Wider w wc))
        case first =>
          as_aux_lemma =>
          by_cases t0 : t = 0
          · have e0 : ((t : Int) == 0) = true := by rw [beq_iff_eq]; omega
            have hb : bad = true := by rw [← HBAD.out]; apply decide_eq_true; omega
            subst hb
            (go_quiet (fail); go_wp2_with fail; go_meet; exact ⟨rfl, HG.out.drewN _⟩)
          · have e0 : ((t : Int) == 0) = false := by rw [beq_eq_false_iff_ne]; omega
            by_cases k0 : k = 0
            · have e1 : decide ((0 : Int) < (k : Int)) = false := decide_eq_false (by omega)
              have e1n : decide (0 < k) = false := decide_eq_false (by omega)
              have hp0 : Hid (p = 0) := by show p = 0; rw [← HP.out, k0]; rfl
              have k1 := Lib.hid k0
              clear k0
              by_cases sz : s.size = 0
              · have hb : bad = true := by rw [← HBAD.out]; apply decide_eq_true; omega
                subst hb
                obtain rfl : s = ByteArray.empty := by apply ba_ext; exact List.eq_nil_of_length_eq_zero (by rw [← size_data]; exact sz)
                (go_quiet (fail); go_wp2_with fail; go_meet; exact ⟨rfl, HG.out.drewN _⟩)
              · have hb : bad = false := by rw [← HBAD.out]; apply decide_eq_false; (try have := hp0.out); omega
                subst hb
                have s1 := ne_empty s sz
                have s2 := s1.1
                have s3 := s1.2
                clear s1
                (go_quiet (fail); go_wp2_with fail; go_meet; exact ⟨rfl, HG.out.drewN _⟩)
            · obtain ⟨j, hj⟩ : ∃ j, k = j + 1 := ⟨k - 1, by omega⟩
              have e1 : decide ((0 : Int) < (k : Int)) = true := decide_eq_true (by omega)
              have e1n : decide (0 < k) = true := decide_eq_true (by omega)
              obtain ⟨y, hy⟩ := next_some l j (by have := HN.out; omega)
              have hB := (H.out.cell a rfl j y hy).on HG.out
              have hp0 := lastA_prev l j y hy
              rw [← hj, HP.out] at hp0
              obtain ⟨u, v⟩ := y
              have ⟨b0, b1⟩ := hB
              simp only at b0 b1 hp0
              clear hy hB b1
              subst hp0
              have i0 : (0 : Int) ≤ (k : Int) - 1 := by omega
              have i1 : (k : Int) - 1 < (n : Int) := by omega
              have i2 : ((k : Int) - 1).toNat = j := by omega
              clear hj
              by_cases le : t ≤ p
              · have e2 : decide ((t : Int) ≤ (p : Int)) = true := decide_eq_true (by omega)
                have e3 : decide (t ≤ p) = true := decide_eq_true (by omega)
                have hb : bad = true := by rw [← HBAD.out]; apply decide_eq_true; omega
                subst hb
                (go_quiet (fail); go_wp2_with fail; go_meet; exact ⟨rfl, HG.out.drewN _⟩)
              · have e2 : decide ((t : Int) ≤ (p : Int)) = false := decide_eq_false (by omega)
                have e3 : decide (t ≤ p) = false := decide_eq_false (by omega)
                by_cases sz : s.size = 0
                · have hb : bad = true := by rw [← HBAD.out]; apply decide_eq_true; omega
                  subst hb
                  obtain rfl : s = ByteArray.empty := by apply ba_ext; exact List.eq_nil_of_length_eq_zero (by rw [← size_data]; exact sz)
                  (go_quiet (fail); go_wp2_with fail; go_meet; exact ⟨rfl, HG.out.drewN _⟩)
                · have hb : bad = false := by rw [← HBAD.out]; apply decide_eq_false; omega
                  subst hb
                  have s1 := ne_empty s sz
                  have s2 := s1.1
                  have s3 := s1.2
                  clear s1
                  (go_quiet (fail); go_wp2_with fail; go_meet; exact ⟨rfl, HG.out.drewN _⟩)
        case rest =>
          clear hg c0 c1 d1 HG
          obtain ⟨rfl, HG⟩ := hcut
          obtain ⟨c0, c1⟩ := (H.out.cell a rfl k _ HX.out).on HG.out
          have d1 := AtAt.flat ⟨c0, c1⟩
          simp only at c0 c1 d1
          have SN2 := SN.out
          rw [← TK.out, HP.out] at SN2
          simp only at SN2
          cases bad with
          | true =>
            rw [if_pos (of_decide_eq_true HBAD.out)] at SN2
            have R3 := okA_upto l (k + 1) SN2 (by decide)
            have e1 : r = 3 := by rw [← HR.out, R3]
            have e2 : T = ⟨#[]⟩ := by rw [← HT.out, encA_bad R3 (by decide)]
            subst e1 e2
            clear SN2 R3
            go_wp2
            go_ret2
            exact ⟨rfl, HG.out⟩
          | false =>
            rw [if_neg (of_decide_eq_false HBAD.out)] at SN2
            by_cases z : 65535 < s.size
            · rw [if_pos z] at SN2
              have R3 := okA_upto l (k + 1) SN2 (by decide)
              have e1 : r = 5 := by rw [← HR.out, R3]
              have e2 : T = ⟨#[]⟩ := by rw [← HT.out, encA_bad R3 (by decide)]
              subst e1 e2
              have z1 : decide ((65535 : Int) < (s.size : Int)) = true := decide_eq_true (by omega)
              have z2 : decide (65535 < s.size) = true := decide_eq_true z
              clear SN2 R3
              go_wp2
              go_ret2
              exact ⟨rfl, HG.out⟩
            · rw [if_neg z] at SN2
              have SN3 := Lib.hid SN2
              have z1 : decide ((65535 : Int) < (s.size : Int)) = false := decide_eq_false (by omega)
              have z2 : decide (65535 < s.size) = false := decide_eq_false z
              have hz : s.size < 65536 := by omega
              obtain ⟨B2, hB2⟩ : ∃ B2, mkB (bytsA (l.take (k + 1))) = B2 := ⟨_, rfl⟩
              have hlen : (bytsA (l.take (k + 1))).length < 1000000 := by
                have := HB.out
                have e : bytsA l = bytsA (l.take (k + 1)) ++ bytsA (l.drop (k + 1)) := by rw [← bytsA_append, List.take_append_drop]
                rw [e, List.length_append] at this
                omega
              have e3 : bytsA (l.take (k + 1)) = bytsA (l.take k) ++ bytA ⟨t, s⟩ := by rw [TK.out, bytsA_snoc]
              have hla : (bytA ⟨t, s⟩).length = 3 + s.size := bytA_length _
              have hS3 : S.size = (bytsA (l.take k)).length := by rw [← HS.out, mkB_size]
              rw [e3, List.length_append, hla, ← hS3] at hlen
              have hX : S ++ mkB [UInt8.ofNat t] ++ mkB (wordB s.size) ++ s = B2 := by rw [← HS.out, bytA_text, ← e3, hB2]
              have y1 : (mkB [UInt8.ofNat t]).size = 1 := by rw [mkB_size]; rfl
              have y2 : (mkB (wordB s.size)).size = 2 := by rw [mkB_size]; rfl
              obtain ⟨Y1, hY1⟩ : ∃ Y, mkB [UInt8.ofNat t] = Y := ⟨_, rfl⟩
              obtain ⟨Y2, hY2⟩ : ∃ Y, mkB (wordB s.size) = Y := ⟨_, rfl⟩
              have hcv := fun (W : World) (B : Nat) (h : W.cell? ⟨B, 0, none⟩ = some (.int .u8 (t : Int))) => conv1 t W B h
              have z3 := fun W : World => rtwo_c s.size hz W
              rw [hY1] at hX y1 hcv
              rw [hY2] at hX y2 z3
              have ha1 : ∀ W : World, (Op.stringOp .add S Y1).run Try.prog W = .ok (.string (S ++ Y1)) W := fun W => run_string_add_sum W _ _ (by omega)
              have ha2 : ∀ W : World, (Op.stringOp .add (S ++ Y1) Y2).run Try.prog W = .ok (.string (S ++ Y1 ++ Y2)) W := fun W => run_string_add_sum W _ _ (by rw [ByteArray.size_append]; omega)
              have ha3 : ∀ W : World, (Op.stringOp .add (S ++ Y1 ++ Y2) s).run Try.prog W = .ok (.string B2) W := fun W => by rw [run_string_add_sum W _ _ (by rw [ByteArray.size_append, ByteArray.size_append]; omega), hX]
              have HB2 := Lib.hid hB2
              clear hX hY1 hY2 hlen hla hS3 e3 y1 y2 hB2 SN2
              go_upto_region 9 with fail
              go_region_held (fun w' => w'.cell? (a.add (k * 2)) = some (.int .u8 (t : Int)) ∧ w'.cell? ⟨(a.add (k * 2)).block, (a.add (k * 2)).off + 1, none⟩ = some (.string s) ∧ Hid (Wider w w'))
                  (first | assumption | exact ⟨c0, d1, HG⟩ | exact keepA2 (by assumption) | exact keepW2 (by assumption) (by assumption))
                  (first
                    | (go_at_call 33; ((with_reducible refine (z3 _).mono ?_); rintro e w' ⟨rfl, g'⟩; (try (have q0 := wkeep g' (new1 wc (.int .u8 (t : Int)) 5))))))
              all_goals
                  (with_reducible have HE := Lib.hid (by assumption : _ ∧ _ ∧ Hid (Wider w _)))
                  go_wp2
                  go_roundw
                  case rel => exact ⟨k + 1, by omega, by go_num, ⟨B2, rfl, HB2.out⟩, SN3.out, HE.out.2.2.out⟩
                  case measure => simp [intOf]; omega
    · obtain rfl : k = n := by omega
      have e := HS.out
      have e0 := HOK.out
      rw [List.take_of_length_le (by have := HN.out; omega)] at e e0
      have e1 : r = 0 := by rw [← HR.out, e0]
      have e2 : T = S := by rw [← HT.out, encA_good e0, e]
      subst e1 e2
      clear e e0
      go_wp2
      go_ret2
      exact ⟨rfl, hg⟩

end Go.Proofs.Ytemfionibnlniaa
