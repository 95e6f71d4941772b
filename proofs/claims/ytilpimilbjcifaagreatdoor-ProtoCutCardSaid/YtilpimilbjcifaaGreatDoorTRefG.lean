/- Texts that belong together, one behind the other: TBulk THelp TRef TRefB TRefC TRefD TRefE. -/
import Derived.Test.YtilpimilbjcifaaGreatDoorOpen
import Derived.Test.YtilpimilbjcifaaGreatDoorRowsG
import Derived.WalkKit
import Derived.Lib.Hide
import Derived.Deep.DeepCutAuto
import Derived.WalkLawsBesides
import Derived.WalkSpells
import Derived.BigQuiet
import Derived.BigRegion
import Derived.Deep.RegionHeld3
import Derived.Test.YtilpimilbjcifaaGreatDoorBlk
import Derived.Deep.RegionLaw

/- How much attributes and texts are as the statements reckon it; the document's Same and Texts: by walks. -/
namespace Go.Proofs.YtilpimilbjcifaaGreatDoor
set_option linter.unusedVariables false
open Go.ChangeShapes Go.WideShapes Go.ChangeAt Go.RowKit Go.Joins
open Go.ChangeMaps (open_string shut_string)


/-- How much it is, as the statements reckon it. -/
def bulkA (l : List AtN) : Nat := (l.map fun x => 10 + min 100000 x.v.size).sum
theorem bulkA_snoc (l : List AtN) (x : AtN) : bulkA (l ++ [x]) = bulkA l + (10 + min 100000 x.v.size) := by unfold bulkA; simp
theorem bulkA_append (l m : List AtN) : bulkA (l ++ m) = bulkA l + bulkA m := by unfold bulkA; simp
theorem bulkA_take (l : List AtN) (k : Nat) : bulkA (l.take k) ≤ bulkA l := by
  have e : bulkA l = bulkA (l.take k) + bulkA (l.drop k) := by rw [← bulkA_append, List.take_append_drop]
  omega
theorem bulkA_len (l : List AtN) : 10 * l.length ≤ bulkA l := by
  unfold bulkA
  induction l with
  | nil => simp
  | cons s l ih => simp only [List.map_cons, List.sum_cons, List.length_cons]; omega

/-- How much it is, as the statements reckon it. -/
def bulkS (l : List ByteArray) : Nat := (l.map fun x => 10 + min 100000 x.size).sum
theorem bulkS_snoc (l : List ByteArray) (x : ByteArray) : bulkS (l ++ [x]) = bulkS l + (10 + min 100000 x.size) := by unfold bulkS; simp
theorem bulkS_append (l m : List ByteArray) : bulkS (l ++ m) = bulkS l + bulkS m := by unfold bulkS; simp
theorem bulkS_take (l : List ByteArray) (k : Nat) : bulkS (l.take k) ≤ bulkS l := by
  have e : bulkS l = bulkS (l.take k) + bulkS (l.drop k) := by rw [← bulkS_append, List.take_append_drop]
  omega
theorem bulkS_len (l : List ByteArray) : 10 * l.length ≤ bulkS l := by
  unfold bulkS
  induction l with
  | nil => simp
  | cons s l ih => simp only [List.map_cons, List.sum_cons, List.length_cons]; omega

theorem bytsA_len (l : List AtN) : l.length ≤ (bytsA l).length ∧ ∀ x ∈ l, x.v.size ≤ (bytsA l).length := by
  induction l with
  | nil => simp [bytsA_nil]
  | cons a l ih =>
    rw [bytsA_cons, List.length_append, bytA_length]
    refine ⟨by simp only [List.length_cons]; omega, fun x hx => ?_⟩
    rcases List.mem_cons.1 hx with rfl | hx
    · omega
    · have := ih.2 x hx; omega

theorem bytsT_len (l : List ByteArray) : 2 * l.length ≤ (bytsT l).length ∧ ∀ x ∈ l, x.size ≤ (bytsT l).length := by
  induction l with
  | nil => simp [bytsT_nil]
  | cons a l ih =>
    rw [bytsT_cons, List.length_append, bytT_length]
    refine ⟨by simp only [List.length_cons]; omega, fun x hx => ?_⟩
    rcases List.mem_cons.1 hx with rfl | hx
    · omega
    · have := ih.2 x hx; omega
theorem bulkA_bytes (l : List AtN) (h : bulkA l < 100000) : (bytsA l).length ≤ bulkA l := by
  induction l with
  | nil => simp [bytsA_nil]
  | cons a l ih =>
    have e : bulkA (a :: l) = (10 + min 100000 a.v.size) + bulkA l := by simp [bulkA]
    rw [e] at h ⊢
    rw [bytsA_cons, List.length_append, bytA_length]
    have := ih (by omega)
    omega
theorem bulkS_bytes (l : List ByteArray) (h : bulkS l < 100000) : (bytsT l).length ≤ bulkS l := by
  induction l with
  | nil => simp [bytsT_nil]
  | cons a l ih =>
    have e : bulkS (a :: l) = (10 + min 100000 a.size) + bulkS l := by simp [bulkS]
    rw [e] at h ⊢
    rw [bytsT_cons, List.length_append, bytT_length]
    have := ih (by omega)
    omega
theorem bulkA_each (l : List AtN) (h : bulkA l < 100000) : ∀ x ∈ l, x.v.size < 100000 := by
  induction l with
  | nil => simp
  | cons a l ih =>
    have e : bulkA (a :: l) = (10 + min 100000 a.v.size) + bulkA l := by simp [bulkA]
    rw [e] at h
    intro x hx
    rcases List.mem_cons.1 hx with rfl | hx
    · omega
    · exact ih (by omega) x hx
theorem bulkS_each (l : List ByteArray) (h : bulkS l < 100000) : ∀ x ∈ l, x.size < 100000 := by
  induction l with
  | nil => simp
  | cons a l ih =>
    have e : bulkS (a :: l) = (10 + min 100000 a.size) + bulkS l := by simp [bulkS]
    rw [e] at h
    intro x hx
    rcases List.mem_cons.1 hx with rfl | hx
    · omega
    · exact ih (by omega) x hx

end Go.Proofs.YtilpimilbjcifaaGreatDoor

/- The helpers of the statements of layer 6, and the document's Same and Texts: by walks. -/
namespace Go.Proofs.YtilpimilbjcifaaGreatDoor
set_option linter.unusedVariables false
open Go.ChangeShapes Go.WideShapes Go.ChangeAt Go.RowKit Go.Joins
open Go.ChangeMaps (open_string shut_string)

theorem infoTlv : (Tryz.prog.info? 89).map (fun i => (i.zero, i.size, i.bytes)) = some (some (.agg #[.int .u8 0, .string ⟨#[]⟩]), 2, 24) := by kernel_rfl
theorem infoRef : (Tryz.prog.info? 77).map (fun i => (i.zero, i.size, i.bytes)) = some (some (.agg #[.int .u8 0, .string ⟨#[]⟩]), 2, 24) := by kernel_rfl
end Go.Proofs.YtilpimilbjcifaaGreatDoor

/- The document's answers of layer 6: by walks. -/
namespace Go.Proofs.YtilpimilbjcifaaGreatDoor
set_option linter.unusedVariables false
open Go.ChangeShapes Go.WideShapes Go.ChangeAt Go.RowKit Go.Joins
open Go.ChangeMaps (open_string shut_string)


theorem strOf_two (n : Nat) (h : n < 65536) : strOfNums [((n / 256 : Nat) : Int), ((n % 256 : Nat) : Int)] = mkB (wordB n) := by
  apply ba_ext
  rw [strOfNums_data, mkB_data]
  simp only [List.map_cons, List.map_nil, Int.toNat_natCast]
  rfl
theorem rtwo_c (n : Nat) (h : n < 65536) (w : World) :
    Calls Tryz.prog 73 #[.int .i64 (n : Int)] w fun e w' => e = .returned (.string (mkB (wordB n))) ∧ Wider w w' := by
  have hc := run_convert_bytes_arg (P := Tryz.prog) (w.alloc (.cells #[.int .u8 ((n : Int) / 256), .int .u8 ((n : Int) % 256)] 5)) 24 5 Tryz.underlying24 Tryz.underlying5 w.heap.size 0 2 2 [((n / 256 : Nat) : Int), ((n % 256 : Nat) : Int)] rfl (fun i hi => by
    have e : i = 0 ∨ i = 1 := by omega
    rcases e with rfl | rfl
    · rw [World.cell?_alloc_new]; simp
    · rw [World.cell?_alloc_new]; simp) 9 Tryz.underlying9
  rw [strOf_two n h] at hc
  have m0 : (0 : Int) ≤ (n : Int) := by omega
  have m1 : (n : Int) / 256 % 256 = (n : Int) / 256 := by omega
  have m2 : (n : Int).tdiv 256 = (n : Int) / 256 := by rw [Int.tdiv_eq_ediv_of_nonneg m0]
  have m3 : (n : Int).tmod 256 = (n : Int) % 256 := by rw [Int.tmod_eq_emod_of_nonneg m0]
  have m4 : wrap64 ((n : Int) / 256) = (n : Int) / 256 := by unfold wrap64; omega
  have m5 : wrap64 ((n : Int) % 256) = (n : Int) % 256 := by unfold wrap64; omega
  go_enter Tryz.func73, Tryz.ntmps73
  go_wp2
  go_ret
  exact ⟨rfl, (Wider.refl w).alloc _⟩

theorem unword_int (a b : UInt8) : (a.toNat : Int) * 256 + (b.toNat : Int) = (unword a b : Int) := by unfold unword; omega
theorem rnumber_c (s : ByteArray) (hs : s.size < 1152921504606846976) (a b : UInt8) (r : List UInt8) (h : s.data.toList = a :: b :: r) (w : World) :
    Calls Tryz.prog 72 #[.string s] w fun e w' => e = .returned (.int .i64 (unword a b : Int)) ∧ Wider w w' := by
  have hz : s.size = r.length + 2 := by rw [size_data, h]; simp
  have i0 : (0 : Int) < (s.size : Int) := by omega
  have i1 : (1 : Int) < (s.size : Int) := by omega
  have g0 : 0 < s.size := by omega
  have g1 : 1 < s.size := by omega
  have e0 : s[0].toNat = a.toNat := by
    have : s.data.toList[0]'(by rw [h]; simp) = a := by simp [h]
    rw [← this]; rfl
  have e1 : s[1].toNat = b.toNat := by
    have : s.data.toList[1]'(by rw [h]; simp) = b := by simp [h]
    rw [← this]; rfl
  have la := a.toNat_lt; have lb := b.toNat_lt
  have U := Lib.hid (unword_int a b)
  clear h
  go_enter Tryz.func72, Tryz.ntmps72
  go_wp2
  go_quiet (fail)
  go_wp2
  go_ret
  exact ⟨by rw [← U.out]; rfl, (Wider.refl w).drewN _⟩

end Go.Proofs.YtilpimilbjcifaaGreatDoor

/- The document's Encode and List of layer 6: by walks. -/
namespace Go.Proofs.YtilpimilbjcifaaGreatDoor
set_option linter.unusedVariables false
open Go.ChangeShapes Go.WideShapes Go.ChangeAt Go.RowKit Go.Joins
open Go.ChangeMaps (open_string shut_string)


theorem okA_upto (l : List AtN) (k : Nat) {c : Nat} (h : okA 0 (l.take k) = c) (hc : c ≠ 0) : okA 0 l = c := by
  rw [← List.take_append_drop k l, okA_append, if_neg (by rw [h]; exact hc), h]
theorem okT_upto (l : List ByteArray) (k : Nat) {c : Nat} (h : okT (l.take k) = c) (hc : c ≠ 0) : okT l = c := by
  rw [← List.take_append_drop k l, okT_append, if_neg (by rw [h]; exact hc), h]
theorem encA_bad {l : List AtN} {c : Nat} (h : okA 0 l = c) (hc : c ≠ 0) : encA l = ⟨#[]⟩ := by unfold encA; rw [if_neg (by rw [h]; exact hc)]
theorem encA_good {l : List AtN} (h : okA 0 l = 0) : encA l = mkB (bytsA l) := by unfold encA; rw [if_pos h]
theorem encT_bad {l : List ByteArray} {c : Nat} (h : okT l = c) (hc : c ≠ 0) : encT l = ⟨#[]⟩ := by unfold encT; rw [if_neg (by rw [h]; exact hc)]
theorem encT_good {l : List ByteArray} (h : okT l = 0) : encT l = mkB (bytsT l) := by unfold encT; rw [if_pos h]
theorem bytA_text (t : Nat) (s : ByteArray) (l : List UInt8) : mkB l ++ mkB [UInt8.ofNat t] ++ mkB (wordB s.size) ++ s = mkB (l ++ bytA ⟨t, s⟩) := by
  rw [mkB_append, mkB_append]
  apply ba_ext
  rw [ByteArray.data_append, Array.toList_append, mkB_data, mkB_data]
  simp [bytA]
theorem bytT_text (s : ByteArray) (l : List UInt8) : mkB l ++ mkB (wordB s.size) ++ s = mkB (l ++ bytT s) := by
  rw [mkB_append]
  apply ba_ext
  rw [ByteArray.data_append, Array.toList_append, mkB_data, mkB_data]
  simp [bytT]
theorem strOf_one (t : Nat) : strOfNums [(t : Int)] = mkB [UInt8.ofNat t] := by
  apply ba_ext
  rw [strOfNums_data, mkB_data]
  simp only [List.map_cons, List.map_nil, Int.toNat_natCast]
/-- One byte as a text. -/
theorem conv1 (t : Nat) (W : World) (B : Nat) (h : W.cell? ⟨B, 0, none⟩ = some (.int .u8 (t : Int))) :
    (convert 24 9 (.slice (some ⟨B, 0, none⟩) 1 1)).run Tryz.prog W = .ok (.string (mkB [UInt8.ofNat t])) W := by
  have hc := run_convert_bytes_arg (P := Tryz.prog) W 24 5 Tryz.underlying24 Tryz.underlying5 B 0 1 1 [(t : Int)] rfl (fun i hi => by
    obtain rfl : i = 0 := by omega
    exact h) 9 Tryz.underlying9
  rw [strOf_one] at hc
  exact hc
theorem lastA_prev (l : List AtN) (j : Nat) (y : AtN) (h : l[j]? = some y) : lastA 0 (l.take (j + 1)) = y.t := by rw [take_next l j y h, lastA_snoc]
/-- A claim, marked. -/
def Mark (p : Prop) : Prop := p
theorem mark_out {p : Prop} (h : Mark p) : p := h
theorem mark_iff {p : Prop} (h : p) : Mark p ↔ True := iff_true_intro h
theorem keepA2 {V W : World} {a b : Addr} {u v : Value} {o : Obj} (h : W.cell? a = some u ∧ W.cell? b = some v ∧ Hid (Wider V W)) : (W.alloc o).cell? a = some u ∧ (W.alloc o).cell? b = some v ∧ Hid (Wider V (W.alloc o)) :=
  ⟨kalloc h.1, kalloc h.2.1, halloc2 h.2.2 o⟩
theorem keepW2 {V W w : World} {a b : Addr} {u v : Value} (h : W.cell? a = some u ∧ W.cell? b = some v ∧ Hid (Wider V W)) (g : Wider W w) : w.cell? a = some u ∧ w.cell? b = some v ∧ Hid (Wider V w) :=
  ⟨wkeep g h.1, wkeep g h.2.1, htrans h.2.2 g⟩

set_option maxRecDepth 8000 in
set_option maxHeartbeats 8000000 in
theorem renc_c (A : Option Addr) (n cap : Nat) (l : List AtN) (w : World) (h : AtsAt w A l) (hn : l.length = n) (hl : n < 1000000) (hb : (bytsA l).length < 1000000) {T : ByteArray} {r : Nat} (hT : encA l = T) (hr : okA 0 l = r) :
    Calls Tryz.prog 32 #[.slice A n cap] w fun e w' => e = .returned (.tuple #[.string T, .int .i64 (r : Int)]) ∧ Wider w w' := by
  have HN := Lib.hid hn
  have HT := Lib.hid hT
  have HR := Lib.hid hr
  have HB := Lib.hid hb
  clear hn hT hr hb
  go_enter Tryz.func32, Tryz.ntmps32
  go_wp2
  go_loopw [4, 5] (fun v i wr => ∃ k : Nat, k ≤ n ∧ i = .int .i64 (k : Int) ∧ (∃ S : ByteArray, v = .string S ∧ mkB (bytsA (l.take k)) = S) ∧ okA 0 (l.take k) = 0 ∧ Wider w wr) (fun _ i _ => n - (intOf i).toNat)
  case atStart => exact ⟨0, by omega, by simp, ⟨⟨#[]⟩, rfl, rfl⟩, rfl, Wider.refl w⟩
  case round =>
    obtain ⟨k, hk, rfl, ⟨S, rfl, hS⟩, hok, hg⟩ := hrel
    have HS := Lib.hid hS
    have HOK := Lib.hid hok
    have HG := Lib.hid hg
    clear hS hok
    by_cases c : k < n
    · have j0 : (0 : Int) ≤ (k : Int) := by omega
      have j1 : (k : Int) < (n : Int) := by omega
      obtain ⟨x, hx⟩ := next_some l k (by have := HN.out; omega)
      cases A with
      | none => exact absurd (h.none_ rfl) (by intro e; rw [e] at hx; simp at hx)
      | some a =>
        have H := Lib.hid h
        have TK := Lib.hid (take_next l k x hx)
        have HX := Lib.hid hx
        have SN := Lib.hid (okA_snoc (l.take k) 0 x HOK.out)
        obtain ⟨p, hp⟩ : ∃ p, lastA 0 (l.take k) = p := ⟨_, rfl⟩
        have HP := Lib.hid hp
        have hA := (h.cell a rfl k x hx).on hg
        clear hx h hp
        obtain ⟨t, s⟩ := x
        have ⟨c0, c1⟩ := hA
        have d1 := hA.flat
        simp only at c0 c1 d1
        obtain ⟨bad, hbad⟩ : ∃ b : Bool, decide (t ≤ p ∨ s.size = 0) = b := ⟨_, rfl⟩
        have HBAD := Lib.hid hbad
        clear hA hbad
        go_upto_region 5 with fail
        go_cut [43] (fun v wc => v = .bool bad ∧ Hid (Wider w wc))
        case first =>
          as_aux_lemma =>
          by_cases t0 : t = 0
          · have e0 : ((t : Int) == 0) = true := by rw [beq_iff_eq]; omega
            have hb : bad = true := by rw [← HBAD.out]; apply decide_eq_true; omega
            subst hb
            (go_quiet (fail); go_wp2_with fail; go_meet; exact ⟨rfl, HG.out.drewN _⟩)
          · have e0 : ((t : Int) == 0) = false := by rw [beq_eq_false_iff_ne]; omega
            by_cases k0 : k = 0
            · have e1 : decide ((0 : Int) < (k : Int)) = false := decide_eq_false (by omega)
              have e1n : decide (0 < k) = false := decide_eq_false (by omega)
              have hp0 : Hid (p = 0) := by show p = 0; rw [← HP.out, k0]; rfl
              have k1 := Lib.hid k0
              clear k0
              by_cases sz : s.size = 0
              · have hb : bad = true := by rw [← HBAD.out]; apply decide_eq_true; omega
                subst hb
                obtain rfl : s = ByteArray.empty := by apply ba_ext; exact List.eq_nil_of_length_eq_zero (by rw [← size_data]; exact sz)
                (go_quiet (fail); go_wp2_with fail; go_meet; exact ⟨rfl, HG.out.drewN _⟩)
              · have hb : bad = false := by rw [← HBAD.out]; apply decide_eq_false; (try have := hp0.out); omega
                subst hb
                have s1 := ne_empty s sz
                have s2 := s1.1
                have s3 := s1.2
                clear s1
                (go_quiet (fail); go_wp2_with fail; go_meet; exact ⟨rfl, HG.out.drewN _⟩)
            · obtain ⟨j, hj⟩ : ∃ j, k = j + 1 := ⟨k - 1, by omega⟩
              have e1 : decide ((0 : Int) < (k : Int)) = true := decide_eq_true (by omega)
              have e1n : decide (0 < k) = true := decide_eq_true (by omega)
              obtain ⟨y, hy⟩ := next_some l j (by have := HN.out; omega)
              have hB := (H.out.cell a rfl j y hy).on HG.out
              have hp0 := lastA_prev l j y hy
              rw [← hj, HP.out] at hp0
              obtain ⟨u, v⟩ := y
              have ⟨b0, b1⟩ := hB
              simp only at b0 b1 hp0
              clear hy hB b1
              subst hp0
              have i0 : (0 : Int) ≤ (k : Int) - 1 := by omega
              have i1 : (k : Int) - 1 < (n : Int) := by omega
              have i2 : ((k : Int) - 1).toNat = j := by omega
              clear hj
              by_cases le : t ≤ p
              · have e2 : decide ((t : Int) ≤ (p : Int)) = true := decide_eq_true (by omega)
                have e3 : decide (t ≤ p) = true := decide_eq_true (by omega)
                have hb : bad = true := by rw [← HBAD.out]; apply decide_eq_true; omega
                subst hb
                (go_quiet (fail); go_wp2_with fail; go_meet; exact ⟨rfl, HG.out.drewN _⟩)
              · have e2 : decide ((t : Int) ≤ (p : Int)) = false := decide_eq_false (by omega)
                have e3 : decide (t ≤ p) = false := decide_eq_false (by omega)
                by_cases sz : s.size = 0
                · have hb : bad = true := by rw [← HBAD.out]; apply decide_eq_true; omega
                  subst hb
                  obtain rfl : s = ByteArray.empty := by apply ba_ext; exact List.eq_nil_of_length_eq_zero (by rw [← size_data]; exact sz)
                  (go_quiet (fail); go_wp2_with fail; go_meet; exact ⟨rfl, HG.out.drewN _⟩)
                · have hb : bad = false := by rw [← HBAD.out]; apply decide_eq_false; omega
                  subst hb
                  have s1 := ne_empty s sz
                  have s2 := s1.1
                  have s3 := s1.2
                  clear s1
                  (go_quiet (fail); go_wp2_with fail; go_meet; exact ⟨rfl, HG.out.drewN _⟩)
        case rest =>
          clear hg c0 c1 d1 HG
          obtain ⟨rfl, HG⟩ := hcut
          obtain ⟨c0, c1⟩ := (H.out.cell a rfl k _ HX.out).on HG.out
          have d1 := AtAt.flat ⟨c0, c1⟩
          simp only at c0 c1 d1
          have SN2 := SN.out
          rw [← TK.out, HP.out] at SN2
          simp only at SN2
          cases bad with
          | true =>
            rw [if_pos (of_decide_eq_true HBAD.out)] at SN2
            have R3 := okA_upto l (k + 1) SN2 (by decide)
            have e1 : r = 3 := by rw [← HR.out, R3]
            have e2 : T = ⟨#[]⟩ := by rw [← HT.out, encA_bad R3 (by decide)]
            subst e1 e2
            clear SN2 R3
            go_wp2
            go_ret2
            exact ⟨rfl, HG.out⟩
          | false =>
            rw [if_neg (of_decide_eq_false HBAD.out)] at SN2
            by_cases z : 65535 < s.size
            · rw [if_pos z] at SN2
              have R3 := okA_upto l (k + 1) SN2 (by decide)
              have e1 : r = 5 := by rw [← HR.out, R3]
              have e2 : T = ⟨#[]⟩ := by rw [← HT.out, encA_bad R3 (by decide)]
              subst e1 e2
              have z1 : decide ((65535 : Int) < (s.size : Int)) = true := decide_eq_true (by omega)
              have z2 : decide (65535 < s.size) = true := decide_eq_true z
              clear SN2 R3
              go_wp2
              go_ret2
              exact ⟨rfl, HG.out⟩
            · rw [if_neg z] at SN2
              have SN3 := Lib.hid SN2
              have z1 : decide ((65535 : Int) < (s.size : Int)) = false := decide_eq_false (by omega)
              have z2 : decide (65535 < s.size) = false := decide_eq_false z
              have hz : s.size < 65536 := by omega
              obtain ⟨B2, hB2⟩ : ∃ B2, mkB (bytsA (l.take (k + 1))) = B2 := ⟨_, rfl⟩
              have hlen : (bytsA (l.take (k + 1))).length < 1000000 := by
                have := HB.out
                have e : bytsA l = bytsA (l.take (k + 1)) ++ bytsA (l.drop (k + 1)) := by rw [← bytsA_append, List.take_append_drop]
                rw [e, List.length_append] at this
                omega
              have e3 : bytsA (l.take (k + 1)) = bytsA (l.take k) ++ bytA ⟨t, s⟩ := by rw [TK.out, bytsA_snoc]
              have hla : (bytA ⟨t, s⟩).length = 3 + s.size := bytA_length _
              have hS3 : S.size = (bytsA (l.take k)).length := by rw [← HS.out, mkB_size]
              rw [e3, List.length_append, hla, ← hS3] at hlen
              have hX : S ++ mkB [UInt8.ofNat t] ++ mkB (wordB s.size) ++ s = B2 := by rw [← HS.out, bytA_text, ← e3, hB2]
              have y1 : (mkB [UInt8.ofNat t]).size = 1 := by rw [mkB_size]; rfl
              have y2 : (mkB (wordB s.size)).size = 2 := by rw [mkB_size]; rfl
              obtain ⟨Y1, hY1⟩ : ∃ Y, mkB [UInt8.ofNat t] = Y := ⟨_, rfl⟩
              obtain ⟨Y2, hY2⟩ : ∃ Y, mkB (wordB s.size) = Y := ⟨_, rfl⟩
              have hcv := fun (W : World) (B : Nat) (h : W.cell? ⟨B, 0, none⟩ = some (.int .u8 (t : Int))) => conv1 t W B h
              have z3 := fun W : World => rtwo_c s.size hz W
              rw [hY1] at hX y1 hcv
              rw [hY2] at hX y2 z3
              have ha1 : ∀ W : World, (Op.stringOp .add S Y1).run Tryz.prog W = .ok (.string (S ++ Y1)) W := fun W => run_string_add_sum W _ _ (by omega)
              have ha2 : ∀ W : World, (Op.stringOp .add (S ++ Y1) Y2).run Tryz.prog W = .ok (.string (S ++ Y1 ++ Y2)) W := fun W => run_string_add_sum W _ _ (by rw [ByteArray.size_append]; omega)
              have ha3 : ∀ W : World, (Op.stringOp .add (S ++ Y1 ++ Y2) s).run Tryz.prog W = .ok (.string B2) W := fun W => by rw [run_string_add_sum W _ _ (by rw [ByteArray.size_append, ByteArray.size_append]; omega), hX]
              have HB2 := Lib.hid hB2
              clear hX hY1 hY2 hlen hla hS3 e3 y1 y2 hB2 SN2
              go_upto_region 9 with fail
              go_region_held (fun w' => w'.cell? (a.add (k * 2)) = some (.int .u8 (t : Int)) ∧ w'.cell? ⟨(a.add (k * 2)).block, (a.add (k * 2)).off + 1, none⟩ = some (.string s) ∧ Hid (Wider w w'))
                  (first | assumption | exact ⟨c0, d1, HG⟩ | exact keepA2 (by assumption) | exact keepW2 (by assumption) (by assumption))
                  (first
                    | (go_at_call 73; ((with_reducible refine (z3 _).mono ?_); rintro e w' ⟨rfl, g'⟩; (try (have q0 := wkeep g' (new1 wc (.int .u8 (t : Int)) 5))))))
              all_goals
                  (with_reducible have HE := Lib.hid (by assumption : _ ∧ _ ∧ Hid (Wider w _)))
                  go_wp2
                  go_roundw
                  case rel => exact ⟨k + 1, by omega, by go_num, ⟨B2, rfl, HB2.out⟩, SN3.out, HE.out.2.2.out⟩
                  case measure => simp [intOf]; omega
    · obtain rfl : k = n := by omega
      have e := HS.out
      have e0 := HOK.out
      rw [List.take_of_length_le (by have := HN.out; omega)] at e e0
      have e1 : r = 0 := by rw [← HR.out, e0]
      have e2 : T = S := by rw [← HT.out, encA_good e0, e]
      subst e1 e2
      clear e e0
      go_wp2
      go_ret2
      exact ⟨rfl, hg⟩

end Go.Proofs.YtilpimilbjcifaaGreatDoor

/- The document's List and its numbers of layer 6: by walks. -/
namespace Go.Proofs.YtilpimilbjcifaaGreatDoor
set_option linter.unusedVariables false
open Go.ChangeShapes Go.WideShapes Go.ChangeAt Go.RowKit Go.Joins
open Go.ChangeMaps (open_string shut_string)


theorem keepW1 {V W w : World} {a : Addr} {u : Value} (h : W.cell? a = some u ∧ Hid (Wider V W)) (g : Wider W w) : w.cell? a = some u ∧ Hid (Wider V w) := ⟨wkeep g h.1, htrans h.2 g⟩
set_option maxHeartbeats 8000000 in
theorem rlist_c (A : Option Addr) (n cap : Nat) (l : List ByteArray) (w : World) (h : StrsAt w A l) (hn : l.length = n) (hl : n < 1000000) (hb : (bytsT l).length < 1000000) {T : ByteArray} {r : Nat} (hT : encT l = T) (hr : okT l = r) :
    Calls Tryz.prog 96 #[.slice A n cap] w fun e w' => e = .returned (.tuple #[.string T, .int .i64 (r : Int)]) ∧ Wider w w' := by
  have HN := Lib.hid hn
  have HT := Lib.hid hT
  have HR := Lib.hid hr
  have HB := Lib.hid hb
  clear hn hT hr hb
  go_enter Tryz.func96, Tryz.ntmps96
  go_wp2
  go_loopw [4, 5] (fun v i wr => ∃ k : Nat, k ≤ n ∧ i = .int .i64 (k : Int) ∧ (∃ S : ByteArray, v = .string S ∧ mkB (bytsT (l.take k)) = S) ∧ okT (l.take k) = 0 ∧ Wider w wr) (fun _ i _ => n - (intOf i).toNat)
  case atStart => exact ⟨0, by omega, by simp, ⟨⟨#[]⟩, rfl, rfl⟩, rfl, Wider.refl w⟩
  case round =>
    obtain ⟨k, hk, rfl, ⟨S, rfl, hS⟩, hok, hg⟩ := hrel
    have HS := Lib.hid hS
    have HOK := Lib.hid hok
    have HG := Lib.hid hg
    clear hS hok
    by_cases c : k < n
    · have j0 : (0 : Int) ≤ (k : Int) := by omega
      have j1 : (k : Int) < (n : Int) := by omega
      obtain ⟨s, hx⟩ := next_some l k (by have := HN.out; omega)
      cases A with
      | none => exact absurd (h.none_ rfl) (by intro e; rw [e] at hx; simp at hx)
      | some a =>
        have SN2 := okT_snoc (l.take k) s HOK.out
        have TK := Lib.hid (take_next l k s hx)
        rw [← TK.out] at SN2
        have c0 := wkeep hg (h.cell a rfl k s hx)
        clear hx hg
        by_cases z : 65535 < s.size
        · rw [if_pos z] at SN2
          have R3 := okT_upto l (k + 1) SN2 (by decide)
          have e1 : r = 5 := by rw [← HR.out, R3]
          have e2 : T = ⟨#[]⟩ := by rw [← HT.out, encT_bad R3 (by decide)]
          subst e1 e2
          have z1 : decide ((65535 : Int) < (s.size : Int)) = true := decide_eq_true (by omega)
          have z2 : decide (65535 < s.size) = true := decide_eq_true z
          clear SN2 R3
          go_wp2
          go_ret2
          exact ⟨rfl, HG.out⟩
        · rw [if_neg z] at SN2
          have SN3 := Lib.hid SN2
          have z1 : decide ((65535 : Int) < (s.size : Int)) = false := decide_eq_false (by omega)
          have z2 : decide (65535 < s.size) = false := decide_eq_false z
          have hz : s.size < 65536 := by omega
          obtain ⟨B2, hB2⟩ : ∃ B2, mkB (bytsT (l.take (k + 1))) = B2 := ⟨_, rfl⟩
          have hlen : (bytsT (l.take (k + 1))).length < 1000000 := by
            have := HB.out
            have e : bytsT l = bytsT (l.take (k + 1)) ++ bytsT (l.drop (k + 1)) := by rw [← bytsT_append, List.take_append_drop]
            rw [e, List.length_append] at this
            omega
          have e3 : bytsT (l.take (k + 1)) = bytsT (l.take k) ++ bytT s := by rw [TK.out, bytsT_snoc]
          have hla : (bytT s).length = 2 + s.size := bytT_length _
          have hS3 : S.size = (bytsT (l.take k)).length := by rw [← HS.out, mkB_size]
          rw [e3, List.length_append, hla, ← hS3] at hlen
          have hX : S ++ mkB (wordB s.size) ++ s = B2 := by rw [← HS.out, bytT_text, ← e3, hB2]
          have y2 : (mkB (wordB s.size)).size = 2 := by rw [mkB_size]; rfl
          obtain ⟨Y2, hY2⟩ : ∃ Y, mkB (wordB s.size) = Y := ⟨_, rfl⟩
          have z3 := fun W : World => rtwo_c s.size hz W
          rw [hY2] at hX y2 z3
          have ha2 : ∀ W : World, (Op.stringOp .add S Y2).run Tryz.prog W = .ok (.string (S ++ Y2)) W := fun W => run_string_add_sum W _ _ (by omega)
          have ha3 : ∀ W : World, (Op.stringOp .add (S ++ Y2) s).run Tryz.prog W = .ok (.string B2) W := fun W => by rw [run_string_add_sum W _ _ (by rw [ByteArray.size_append]; omega), hX]
          have HB2 := Lib.hid hB2
          clear hX hY2 hlen hla hS3 e3 y2 hB2 SN2
          go_upto_region 7 with fail
          go_region_held (fun w' => w'.cell? (a.add k) = some (.string s) ∧ Hid (Wider w w'))
            (first | assumption | exact ⟨c0, HG⟩ | exact keepW1 (by assumption) (by assumption))
            (first
              | (go_at_call 73; ((with_reducible refine (z3 _).mono ?_); rintro e w' ⟨rfl, g'⟩)))
          all_goals
            (with_reducible have HE := Lib.hid (by assumption : _ ∧ Hid (Wider w _)))
            go_wp2
            go_roundw
            case rel => exact ⟨k + 1, by omega, by go_num, ⟨B2, rfl, HB2.out⟩, SN3.out, HE.out.2.out⟩
            case measure => simp [intOf]; omega
    · obtain rfl : k = n := by omega
      have e := HS.out
      have e0 := HOK.out
      rw [List.take_of_length_le (by have := HN.out; omega)] at e e0
      have e1 : r = 0 := by rw [← HR.out, e0]
      have e2 : T = S := by rw [← HT.out, encT_good e0, e]
      subst e1 e2
      clear e e0
      go_wp2
      go_ret2
      exact ⟨rfl, hg⟩

theorem numB_small (n : Nat) (h : n < 18446744073709551616) : (numB n).length < 1000000 := by have := numB_len n h; omega
set_option maxHeartbeats 4000000 in
theorem rnum_c (n : Nat) (w : World) (h : n < 18446744073709551616) {T : ByteArray} (hT : mkB (numB n) = T) :
    Calls Tryz.prog 95 #[.int .u64 (n : Int)] w fun e w' => e = .returned (.string T) ∧ Wider w w' := by
  induction n using Nat.strongRecOn generalizing w T with
  | ind n ih =>
    by_cases z : n = 0
    · subst z
      rw [numB_0] at hT
      subst hT
      clear ih
      go_enter Tryz.func95, Tryz.ntmps95
      go_wp2
      go_ret
      exact ⟨rfl, Wider.refl w⟩
    · have e0 : ((n : Int) == 0) = false := by rw [beq_eq_false_iff_ne]; omega
      obtain ⟨Y1, hY1⟩ : ∃ Y, mkB (numB (n / 256)) = Y := ⟨_, rfl⟩
      obtain ⟨Y2, hY2⟩ : ∃ Y, mkB [UInt8.ofNat (n % 256)] = Y := ⟨_, rfl⟩
      have z3 := fun W : World => ih (n / 256) (by omega) W (by omega) hY1
      rw [show ((n / 256 : Nat) : Int) = (n : Int) / 256 by omega] at z3
      have hcv := fun (W : World) (B : Nat) (h : W.cell? ⟨B, 0, none⟩ = some (.int .u8 ((n % 256 : Nat) : Int))) => conv1 (n % 256) W B h
      rw [hY2, show ((n % 256 : Nat) : Int) = (n : Int) % 256 by omega] at hcv
      have hX : Y1 ++ Y2 = T := by
        rw [← hY1, ← hY2, mkB_append, ← hT, numB_pos n z]
      have l1 : Y1.size ≤ 8 := by rw [← hY1, mkB_size]; exact numB_len _ (by omega)
      have l2 : Y2.size = 1 := by rw [← hY2, mkB_size]; rfl
      have ha : ∀ W : World, (Op.stringOp .add Y1 Y2).run Tryz.prog W = .ok (.string T) W := fun W => by rw [run_string_add_sum W _ _ (by omega), hX]
      have m0 : (0 : Int) ≤ (n : Int) := by omega
      have m2 : (n : Int).tdiv 256 = (n : Int) / 256 := by rw [Int.tdiv_eq_ediv_of_nonneg m0]
      have m3 : (n : Int).tmod 256 = (n : Int) % 256 := by rw [Int.tmod_eq_emod_of_nonneg m0]
      have m4 : IntKind.u64.wrap ((n : Int) / 256) = (n : Int) / 256 := by rw [IntKind.wrap_u64]; omega
      have m5 : IntKind.u64.wrap ((n : Int) % 256) = (n : Int) % 256 := by rw [IntKind.wrap_u64]; omega
      have m6 : IntKind.u8.wrap ((n : Int) % 256) = (n : Int) % 256 := by simp [IntKind.wrap, IntKind.bits, IntKind.signed]
      clear ih hX l1 l2 hY1 hY2 hT
      go_enter Tryz.func95, Tryz.ntmps95
      go_upto_region 3 with fail
      have G : Hid (Wider w w) := Wider.refl w
      go_region_held (fun w' => Hid (Wider w w'))
        (first | assumption | exact G | exact halloc2 (by assumption) _ | exact htrans (by assumption) (by assumption))
        (first
          | (go_at_call 95; ((with_reducible refine (z3 _).mono ?_); rintro e w' ⟨rfl, g'⟩; (try (have q0 := wkeep g' (new1 w (.int .u8 ((n : Int) % 256)) 5))))))
      all_goals
        (with_reducible have HE := (by assumption : Hid (Wider w _)))
        go_wp2
        go_ret
        exact ⟨rfl, HE.out⟩

theorem readB_bound (l : List UInt8) (h : l.length ≤ 8) : readB l < 18446744073709551616 := by
  have h1 := readB_lt l
  have h2 : 256 ^ l.length ≤ 256 ^ 8 := Nat.pow_le_pow_right (by decide) h
  have h3 : (256 : Nat) ^ 8 = 18446744073709551616 := by decide
  omega
set_option maxHeartbeats 4000000 in
theorem rreadnum_c (s : ByteArray) (most : Nat) (w : World) (hs : s.size < 1152921504606846976) (hm : most < 18446744073709551616) {v r : Nat} (hr : rnumN s.data.toList most = (v, r)) :
    Calls Tryz.prog 92 #[.string s, .int .u64 (most : Int)] w fun e w' => e = .returned (.tuple #[.int .u64 (v : Int), .int .i64 (r : Int)]) ∧ Wider w w' := by
  unfold rnumN at hr
  by_cases c8 : 8 < s.size
  · rw [if_pos (.inl (by rw [← size_data]; exact c8))] at hr
    obtain ⟨rfl, rfl⟩ : 0 = v ∧ 3 = r := by injection hr with a b; exact ⟨a, b⟩
    have d1 : decide ((8 : Int) < (s.size : Int)) = true := decide_eq_true (by omega)
    have d2 : decide (8 < s.size) = true := decide_eq_true c8
    go_enter Tryz.func92, Tryz.ntmps92
    go_wp2
    go_ret2
    exact ⟨rfl, Wider.refl w⟩
  · have d1 : decide ((8 : Int) < (s.size : Int)) = false := decide_eq_false (by omega)
    have d2 : decide (8 < s.size) = false := decide_eq_false c8
    have HRN : Hid (readB s.data.toList < 18446744073709551616) := readB_bound _ (by rw [← size_data]; omega)
    by_cases z0 : s.data.toList.head? = some 0
    · rw [if_pos (.inr z0)] at hr
      obtain ⟨rfl, rfl⟩ : 0 = v ∧ 3 = r := by injection hr with a b; exact ⟨a, b⟩
      have sz : s.size ≠ 0 := by
        intro e
        have e2 : s.data.toList = [] := List.eq_nil_of_length_eq_zero (by rw [← size_data]; exact e)
        rw [e2] at z0; cases z0
      have s1 := ne_empty s sz
      have s2 := s1.1
      have s3 := s1.2
      have i0 : (0 : Int) < (s.size : Int) := by omega
      have g0 : 0 < s.size := by omega
      have e0 : s[0].toNat = 0 := by
        rw [List.head?_eq_getElem?] at z0
        have : s.data.toList[0]'(by rw [← size_data]; exact g0) = 0 := (List.getElem?_eq_some_iff.1 z0).2
        have e : s[0] = 0 := this
        rw [e]; rfl
      clear s1 sz z0 HRN
      go_enter Tryz.func92, Tryz.ntmps92
      go_wp2
      go_ret2
      exact ⟨rfl, Wider.refl w⟩
    · rw [if_neg (by rintro (h | h); (rw [← size_data] at h; omega); exact z0 h)] at hr
      by_cases sz : s.size = 0
      · have t0 : s.data.toList = [] := List.eq_nil_of_length_eq_zero (by rw [← size_data]; exact sz)
        have s2 : s.toList.isEmpty = true := by rw [ByteArray.toList_eq, t0]; rfl
        have s3 : s.toList = [] := by rw [ByteArray.toList_eq, t0]
        have SZ := Lib.hid sz
        clear sz t0
        go_enter Tryz.func92, Tryz.ntmps92
        go_wp2
        go_loop [6, 7] (fun v i => ∃ k : Nat, k ≤ s.size ∧ i = .int .i64 (k : Int) ∧ ∃ V : Nat, v = .int .u64 (V : Int) ∧ readB (s.data.toList.take k) = V) (fun _ i => s.size - (intOf i).toNat)
        case atStart => exact ⟨0, by omega, by simp, 0, by simp, by simp [readB]⟩
        case round =>
          obtain ⟨k, hk, rfl, V, rfl, hV⟩ := hrel
          have HV := Lib.hid hV
          clear hV
          by_cases c : k < s.size
          · have i0 : (0 : Int) ≤ (k : Int) := by omega
            have i1 : (k : Int) < (s.size : Int) := by omega
            have st : readB (s.data.toList.take (k + 1)) = V * 256 + s[k].toNat := by
              rw [btake_next s k c, readB_snoc, HV.out]
            have bd : readB (s.data.toList.take (k + 1)) < 18446744073709551616 := readB_bound _ (by rw [List.length_take, ← size_data]; omega)
            rw [st] at bd
            have l1 : V * 256 + s[k].toNat < 18446744073709551616 := bd
            have l2 : (V : Int) * 256 < 18446744073709551616 := by omega
            have w1 : IntKind.u64.wrap ((V : Int) * 256) = (V : Int) * 256 := by rw [IntKind.wrap_u64]; omega
            have w2 : IntKind.u64.wrap ((V : Int) * 256 + (s[k].toNat : Int)) = (V : Int) * 256 + (s[k].toNat : Int) := by rw [IntKind.wrap_u64]; omega
            have ST := Lib.hid st
            clear st bd
            go_wp2
            go_round
            case rel => exact ⟨k + 1, by omega, by go_num, V * 256 + s[k].toNat, by simp, ST.out⟩
            case measure => simp [intOf]; omega
          · obtain rfl : k = s.size := by omega
            have e := HV.out
            rw [List.take_of_length_le (by rw [size_data]; exact Nat.le_refl _)] at e
            rw [e] at hr
            by_cases z : most < V
            · rw [if_pos z] at hr
              obtain ⟨rfl, rfl⟩ : 0 = v ∧ 3 = r := by injection hr with a b; exact ⟨a, b⟩
              have f1 : decide ((most : Int) < (V : Int)) = true := decide_eq_true (by omega)
              have f2 : decide (most < V) = true := decide_eq_true z
              clear e HV HRN
              go_wp2
              go_ret2
              exact ⟨rfl, Wider.refl w⟩
            · rw [if_neg z] at hr
              obtain ⟨rfl, rfl⟩ : V = v ∧ 0 = r := by injection hr with a b; exact ⟨a, b⟩
              have f1 : decide ((most : Int) < (V : Int)) = false := decide_eq_false (by omega)
              have f2 : decide (most < V) = false := decide_eq_false z
              clear e HV HRN
              go_wp2
              go_ret2
              exact ⟨rfl, Wider.refl w⟩
      · have s1 := ne_empty s sz
        have s2 := s1.1
        have s3 := s1.2
        have i0 : (0 : Int) < (s.size : Int) := by omega
        have g0 : 0 < s.size := by omega
        have e0 : ¬ s[0].toNat = 0 := by
          intro e
          apply z0
          rw [List.head?_eq_getElem?, List.getElem?_eq_getElem (by rw [← size_data]; exact g0)]
          congr 1
          exact UInt8.toNat_inj.1 e
        have e1 : ((s[0].toNat : Int) == 0) = false := by rw [beq_eq_false_iff_ne]; omega
        have e2 : (s[0].toNat == 0) = false := by rw [beq_eq_false_iff_ne]; exact e0
        clear s1 sz z0
        go_enter Tryz.func92, Tryz.ntmps92
        go_wp2
        go_loop [6, 7] (fun v i => ∃ k : Nat, k ≤ s.size ∧ i = .int .i64 (k : Int) ∧ ∃ V : Nat, v = .int .u64 (V : Int) ∧ readB (s.data.toList.take k) = V) (fun _ i => s.size - (intOf i).toNat)
        case atStart => exact ⟨0, by omega, by simp, 0, by simp, by simp [readB]⟩
        case round =>
          obtain ⟨k, hk, rfl, V, rfl, hV⟩ := hrel
          have HV := Lib.hid hV
          clear hV
          by_cases c : k < s.size
          · have i0 : (0 : Int) ≤ (k : Int) := by omega
            have i1 : (k : Int) < (s.size : Int) := by omega
            have st : readB (s.data.toList.take (k + 1)) = V * 256 + s[k].toNat := by
              rw [btake_next s k c, readB_snoc, HV.out]
            have bd : readB (s.data.toList.take (k + 1)) < 18446744073709551616 := readB_bound _ (by rw [List.length_take, ← size_data]; omega)
            rw [st] at bd
            have l1 : V * 256 + s[k].toNat < 18446744073709551616 := bd
            have l2 : (V : Int) * 256 < 18446744073709551616 := by omega
            have w1 : IntKind.u64.wrap ((V : Int) * 256) = (V : Int) * 256 := by rw [IntKind.wrap_u64]; omega
            have w2 : IntKind.u64.wrap ((V : Int) * 256 + (s[k].toNat : Int)) = (V : Int) * 256 + (s[k].toNat : Int) := by rw [IntKind.wrap_u64]; omega
            have ST := Lib.hid st
            clear st bd
            go_wp2
            go_round
            case rel => exact ⟨k + 1, by omega, by go_num, V * 256 + s[k].toNat, by simp, ST.out⟩
            case measure => simp [intOf]; omega
          · obtain rfl : k = s.size := by omega
            have e := HV.out
            rw [List.take_of_length_le (by rw [size_data]; exact Nat.le_refl _)] at e
            rw [e] at hr
            by_cases z : most < V
            · rw [if_pos z] at hr
              obtain ⟨rfl, rfl⟩ : 0 = v ∧ 3 = r := by injection hr with a b; exact ⟨a, b⟩
              have f1 : decide ((most : Int) < (V : Int)) = true := decide_eq_true (by omega)
              have f2 : decide (most < V) = true := decide_eq_true z
              clear e HV HRN
              go_wp2
              go_ret2
              exact ⟨rfl, Wider.refl w⟩
            · rw [if_neg z] at hr
              obtain ⟨rfl, rfl⟩ : V = v ∧ 0 = r := by injection hr with a b; exact ⟨a, b⟩
              have f1 : decide ((most : Int) < (V : Int)) = false := decide_eq_false (by omega)
              have f2 : decide (most < V) = false := decide_eq_false z
              clear e HV HRN
              go_wp2
              go_ret2
              exact ⟨rfl, Wider.refl w⟩

end Go.Proofs.YtilpimilbjcifaaGreatDoor

/- The document's Decode and ReadList of layer 6: by walks. -/
namespace Go.Proofs.YtilpimilbjcifaaGreatDoor
set_option linter.unusedVariables false
open Go.ChangeShapes Go.WideShapes Go.ChangeAt Go.RowKit Go.Joins
open Go.ChangeMaps (open_string shut_string)


/-- An append to an owned row, as one step of a region that draws. -/
theorem step_append_own {P : Program} {ops : Array Oper} {o : Oper} {a : Act} {w : World} {K : Act → World → Prop} {Q : Exit → Act → World → Prop} {E : Prop}
    (hg : o.guard = none) (s x : Operand) (t : TypeId) (ho : o.op = Op.call { callee := Callee.builtin Builtin.append, args := #[s, x], argTypes := #[t, t] })
    (base : Nat) (e : TypeId) (i : TypeInfo) (z : Value) (size bytes : Nat) (ht : P.underlying t = some (.slice e)) (hi : P.info? e = some i) (hz : i.zero = some z)
    (hsize : i.size = size) (hby : i.bytes = bytes) (hzs : z.cells.size = size) (hsz : 0 < size)
    (v : Value) (n : Nat) (xs : List Value) (hs : a.eval s = v) (hown : w.ownsRow base e size v n xs)
    (ad : Addr) (m c : Nat) (news : List Value) (hx : a.eval x = .slice (some ad) m c) (hl : news.length = m * size) (hnews : ∀ j u, news[j]? = some u → w.cell? (ad.add j) = some u) (h1 : ∀ u ∈ news, u.oneCell' = true)
    (h63 : n + m ≤ maxLen) (hbytes : (n + m) * bytes ≤ 140737488355328) (hbase : base ≤ w.heap.size)
    (h : ∀ v' w', w'.ownsRow base e size v' (n + m) (xs ++ news) → w.grownBy w' v.ownBlock → (v' = .slice none 0 0 ↔ v = .slice none 0 0 ∧ m = 0) → K (a.put o.dst v') w') :
    if Region.wanted o (yielded ops a.tmps) = true then Oper.wp P o a w K Q else E := by
  have hw : Region.wanted o (yielded ops a.tmps) = true := by simp [Region.wanted, hg]
  rw [if_pos hw]
  exact wp_append_own w s x t ho base e i z size bytes ht hi hz hsize hby hzs hsz v n xs hs hown ad m c news hx hl hnews h1 h63 hbytes hbase h
theorem lies2d (w : World) (u v : Value) (t : TypeId) (hu : u.oneCell' = true) (hv : v.oneCell' = true) :
    (∀ (j : Nat) (x : Value), ([u, v] : List Value)[j]? = some x → ((w.alloc (.cells #[u, v] t)).drew).cell? ((⟨w.heap.size, 0, none⟩ : Addr).add j) = some x) ∧ (∀ x ∈ ([u, v] : List Value), x.oneCell' = true) :=
  lies2 w u v t hu hv
theorem s_head {s : ByteArray} {t a b : UInt8} {r : List UInt8} (h : s.data.toList = t :: a :: b :: r) (g : 0 < s.size) : s[0].toNat = t.toNat := by
  have : s.data.toList[0]'(by rw [h]; simp) = t := by simp [h]
  rw [← this]; rfl
set_option maxRecDepth 4000 in
set_option maxHeartbeats 8000000 in
theorem rdec_c (s : ByteArray) (w : World) (hs : s.size < 1000000) {m : List AtN} {c : Nat} (hr : decA [] 0 s.data.toList = (m, c)) :
    Calls Tryz.prog 31 #[.string s] w fun e w' => ∃ v, e = .returned (.tuple #[v, .int .i64 (c : Int)]) ∧ Wider w w' ∧ w'.ownsRow w.heap.size 77 2 v m.length (cellsA m) := by
  have HR := Lib.hid hr
  obtain ⟨i0, hi, hz0, hz1, hz2⟩ := info_parts infoRef
  clear hr
  go_enter Tryz.func31, Tryz.ntmps31
  go_wp2
  go_loopw [0, 4, 5] (fun q v z wr => ∃ S : ByteArray, q = .string S ∧ ∃ (acc : List AtN) (n : Nat), acc.length = n ∧ wr.ownsRow w.heap.size 77 2 v n (cellsA acc) ∧ (∃ p : Nat, z = .int .u8 (p : Int) ∧ decA acc p S.data.toList = (m, c)) ∧ n + S.size ≤ s.size ∧ Wider w wr) (fun q _ _ _ => strLen q)
  case atStart => exact ⟨s, rfl, [], 0, rfl, World.ownsRow_nil _ _ _ _, ⟨0, by simp, HR.out⟩, by omega, Wider.refl w⟩
  case round =>
    obtain ⟨S, rfl, acc, n, hn, hown, ⟨p, rfl, hd⟩, hl, hg⟩ := hrel
    have HD := Lib.hid hd
    have HN := Lib.hid hn
    have HG := Lib.hid hg
    clear hd hn
    by_cases z0 : S.size = 0
    · have t0 : S.data.toList = [] := List.eq_nil_of_length_eq_zero (by rw [← size_data]; exact z0)
      have s2 : S.toList.isEmpty = true := by rw [ByteArray.toList_eq, t0]; rfl
      have s3 : S.toList = [] := by rw [ByteArray.toList_eq, t0]
      have e := HD.out
      rw [t0, decA_nil] at e
      obtain ⟨rfl, rfl⟩ : acc = m ∧ 0 = c := by injection e with a b; exact ⟨a, b⟩
      have hown2 := hown
      rw [← HN.out] at hown2
      clear t0 z0 e hown
      go_wp2
      go_ret2
      exact ⟨_, rfl, hg, hown2⟩
    · have s1 := ne_empty S z0
      have s2 := s1.1
      have s3 := s1.2
      clear s1
      by_cases z3 : S.size < 3
      · have d1 : decide ((S.size : Int) < 3) = true := decide_eq_true (by omega)
        have d2 : decide (S.size < 3) = true := decide_eq_true z3
        have e := HD.out
        rw [decA_short _ _ _ (by intro q; apply z0; rw [size_data, q]; rfl) (by rw [← size_data]; exact z3)] at e
        obtain ⟨rfl, rfl⟩ : [] = m ∧ 4 = c := by injection e with a b; exact ⟨a, b⟩
        clear e z0
        go_wp2
        go_ret2
        exact ⟨_, rfl, hg, World.ownsRow_nil _ _ _ _⟩
      · have d1 : decide ((S.size : Int) < 3) = false := decide_eq_false (by omega)
        have d2 : decide (S.size < 3) = false := decide_eq_false z3
        obtain ⟨t, a, b, r, hS⟩ := three S.data.toList (by rw [← size_data]; omega)
        have hx : (S.extract 1 3).data.toList = [a, b] := by rw [extract_list, hS]; rfl
        have hxs : (S.extract 1 3).size = 2 := by rw [size_data, hx]; rfl
        have zn := fun W : World => rnumber_c (S.extract 1 3) (by omega) a b [] hx W
        have g0 : 0 < S.size := by omega
        have i0' : (0 : Int) < (S.size : Int) := by omega
        have i3 : (3 : Int) ≤ (S.size : Int) := by omega
        have e0 := s_head hS g0
        have hrl : r.length + 3 = S.size := by rw [size_data, hS]; simp
        have e := HD.out
        rw [hS, decA_some] at e
        obtain ⟨N, hN⟩ : ∃ N, unword a b = N := ⟨_, rfl⟩
        have hNl := unword_lt a b
        rw [hN] at zn e hNl
        have lt := t.toNat_lt
        have HS := Lib.hid hS
        clear hx hxs z0 hN hS
        by_cases q1 : t.toNat ≤ p
        · rw [if_pos (.inl q1)] at e
          obtain ⟨rfl, rfl⟩ : [] = m ∧ 3 = c := by injection e with a b; exact ⟨a, b⟩
          have f1 : decide ((S[0].toNat : Int) ≤ (p : Int)) = true := decide_eq_true (by omega)
          have f2 : decide (S[0].toNat ≤ p) = true := decide_eq_true (by omega)
          have f3 : decide ((t.toNat : Int) ≤ (p : Int)) = true := decide_eq_true (by omega)
          have f4 : decide (t.toNat ≤ p) = true := decide_eq_true q1
          clear e
          go_wp2_with (go_at_call 72; ((with_reducible refine (zn _).mono ?_); rintro e w2 ⟨rfl, g⟩; replace HG := htrans HG g))
          go_ret2
          exact ⟨_, rfl, HG.out, World.ownsRow_nil _ _ _ _⟩
        · have f1 : decide ((S[0].toNat : Int) ≤ (p : Int)) = false := decide_eq_false (by omega)
          have f2 : decide (S[0].toNat ≤ p) = false := decide_eq_false (by omega)
          have f3 : decide ((t.toNat : Int) ≤ (p : Int)) = false := decide_eq_false (by omega)
          have f4 : decide (t.toNat ≤ p) = false := decide_eq_false q1
          by_cases q2 : N = 0
          · rw [if_pos (.inr q2)] at e
            obtain ⟨rfl, rfl⟩ : [] = m ∧ 3 = c := by injection e with a b; exact ⟨a, b⟩
            have f5 : ((N : Int) == 0) = true := by rw [beq_iff_eq]; omega
            clear e q2
            go_wp2_with (go_at_call 72; ((with_reducible refine (zn _).mono ?_); rintro e w2 ⟨rfl, g⟩; replace HG := htrans HG g))
            go_ret2
            exact ⟨_, rfl, HG.out, World.ownsRow_nil _ _ _ _⟩
          · have f5 : ((N : Int) == 0) = false := by rw [beq_eq_false_iff_ne]; omega
            rw [if_neg (by rintro (h | h); exact q1 h; exact q2 h)] at e
            by_cases q3 : r.length < N
            · rw [if_pos q3] at e
              obtain ⟨rfl, rfl⟩ : [] = m ∧ 4 = c := by injection e with a b; exact ⟨a, b⟩
              have f6 : decide ((S.size : Int) < 3 + (N : Int)) = true := decide_eq_true (by omega)
              have f7 : decide (S.size < 3 + N) = true := decide_eq_true (by omega)
              clear e q2
              go_wp2_with (go_at_call 72; ((with_reducible refine (zn _).mono ?_); rintro e w2 ⟨rfl, g⟩; replace HG := htrans HG g))
              go_ret2
              exact ⟨_, rfl, HG.out, World.ownsRow_nil _ _ _ _⟩
            · rw [if_neg q3] at e
              have f6 : decide ((S.size : Int) < 3 + (N : Int)) = false := decide_eq_false (by omega)
              have f7 : decide (S.size < 3 + N) = false := decide_eq_false (by omega)
              have i4 : (3 : Int) ≤ 3 + (N : Int) := by omega
              have i5 : 3 + (N : Int) ≤ (S.size : Int) := by omega
              have w1 : IntKind.i64.wrap (3 + (N : Int)) = 3 + (N : Int) := by simp [IntKind.wrap, IntKind.bits, IntKind.signed]; omega
              have w3 : (3 + (N : Int)).toNat = 3 + N := by omega
              clear q2
              go_upto_region 12 with (go_at_call 72; ((with_reducible refine (zn _).mono ?_); rintro e w2 ⟨rfl, g⟩; replace HG := htrans HG g; replace hown := ownsRow_wider hown g))
              have hV : mkB (r.take N) = S.extract 3 (3 + N) := by
                apply ba_ext; rw [mkB_data, extract_list, HS.out]
                rw [show 3 + N = N + 1 + 1 + 1 by omega]
                simp
              have hW : (S.extract (3 + N) S.size).data.toList = r.drop N := by
                rw [extract_list, HS.out, List.take_of_length_le (by rw [← HS.out, size_data]; exact Nat.le_refl _)]
                rw [show 3 + N = N + 1 + 1 + 1 by omega]; rfl
              have hWs : (S.extract (3 + N) S.size).size = S.size - (3 + N) := by rw [size_data, hW, List.length_drop]; omega
              rw [hV, ← hW] at e
              obtain ⟨V, hV2⟩ : ∃ V, S.extract 3 (3 + N) = V := ⟨_, rfl⟩
              rw [hV2] at e
              have HE := Lib.hid e
              have HW := Lib.hid hWs
              have SIDE := Lib.hid (lies2d w2 (.int .u8 (t.toNat : Int)) (.string V) 77 rfl rfl)
              have SIDE3 : Hid (n + 1 ≤ maxLen) := by show n + 1 ≤ maxLen; unfold maxLen; omega
              have SIDE4 : Hid ((n + 1) * 24 ≤ 140737488355328) := by show (n + 1) * 24 ≤ 140737488355328; omega
              have SIDE5 : Hid (w.heap.size ≤ (w2.alloc (.cells #[.int .u8 (t.toNat : Int), .string V] 77)).drew.heap.size) := by show w.heap.size ≤ (w2.heap.push _).size; have := HG.out.2; simp; omega
              have HO : Hid ((w2.alloc (.cells #[.int .u8 (t.toNat : Int), .string V] 77)).drew.ownsRow w.heap.size 77 2 _ n (cellsA acc)) := hown.alloc _
              have HO2 := Lib.hid hown
              clear e hV hW hWs hown
              go_region_law ((refine step_append_own rfl (.tmp 30) (.tmp 38) 72 rfl w.heap.size 77 i0 (.agg #[.int .u8 0, .string ⟨#[]⟩]) 2 24 Tryz.underlying72 hi hz0 hz1 hz2 rfl (by decide) _ _ _ rfl HO.out ⟨w2.heap.size, 0, none⟩ 1 1 [.int .u8 (t.toNat : Int), .string V] rfl rfl SIDE.out.1 SIDE.out.2 SIDE3.out SIDE4.out SIDE5.out ?_; intro v' w3 hown' hgrow hnil))
              have G1 := wider_appendAd (o := .cells #[.int .u8 (t.toNat : Int), .string V] 77) HG.out HO2.out (by exact hgrow)
              rw [← cellsA_snoc _ ⟨t.toNat, V⟩] at hown'
              clear hgrow hnil
              go_wp2
              go_roundw
              case rel => exact ⟨S.extract (3 + N) S.size, rfl, acc ++ [⟨t.toNat, V⟩], n + 1, by simp [HN.out], hown', ⟨t.toNat, rfl, HE.out⟩, by have := HW.out; omega, G1⟩
              case measure => simp [strLen]; have := HW.out; omega

end Go.Proofs.YtilpimilbjcifaaGreatDoor

/- The document's ReadList of layer 6: by a walk. -/
namespace Go.Proofs.YtilpimilbjcifaaGreatDoor
set_option linter.unusedVariables false
open Go.ChangeShapes Go.WideShapes Go.ChangeAt Go.RowKit Go.Joins
open Go.ChangeMaps (open_string shut_string)

set_option maxRecDepth 4000 in
set_option maxHeartbeats 8000000 in
theorem rreadlist_c (s : ByteArray) (most : Int) (w : World) (hs : s.size < 1000000) (m0 : -9223372036854775808 ≤ most) (m1 : most ≤ 9223372036854775807) {m : List ByteArray} {c : Nat} (hr : decT [] most s.data.toList = (m, c)) :
    Calls Tryz.prog 140 #[.string s, .int .i64 most] w fun e w' => ∃ v, e = .returned (.tuple #[v, .int .i64 (c : Int)]) ∧ Wider w w' ∧ w'.ownsRow w.heap.size 9 1 v m.length (cellsS m) := by
  have HR := Lib.hid hr
  obtain ⟨i0, hi, hz0, hz1, hz2⟩ := info_parts infoStr
  clear hr
  go_enter Tryz.func140, Tryz.ntmps140
  go_wp2
  go_loopw [0, 6] (fun q v wr => ∃ S : ByteArray, q = .string S ∧ ∃ (acc : List ByteArray) (n : Nat), acc.length = n ∧ (∃ A cap, v = .slice A n cap) ∧ wr.ownsRow w.heap.size 9 1 v n (cellsS acc) ∧ decT acc most S.data.toList = (m, c) ∧ n + S.size ≤ s.size ∧ Wider w wr) (fun q _ _ => strLen q)
  case atStart => exact ⟨s, rfl, [], 0, rfl, ⟨none, 0, rfl⟩, World.ownsRow_nil _ _ _ _, HR.out, by omega, Wider.refl w⟩
  case round =>
    obtain ⟨S, rfl, acc, n, hn, ⟨A, cap, rfl⟩, hown, hd, hl, hg⟩ := hrel
    have HD := Lib.hid hd
    have HN := Lib.hid hn
    have HG := Lib.hid hg
    clear hd hn
    by_cases z0 : S.size = 0
    · have t0 : S.data.toList = [] := List.eq_nil_of_length_eq_zero (by rw [← size_data]; exact z0)
      have s2 : S.toList.isEmpty = true := by rw [ByteArray.toList_eq, t0]; rfl
      have s3 : S.toList = [] := by rw [ByteArray.toList_eq, t0]
      have e := HD.out
      rw [t0, decT_nil] at e
      obtain ⟨rfl, rfl⟩ : acc = m ∧ 0 = c := by injection e with a b; exact ⟨a, b⟩
      have hown2 := hown
      rw [← HN.out] at hown2
      clear t0 z0 e hown
      go_wp2
      go_ret2
      exact ⟨_, by first | rfl | (rw [HN.out]), hg, by first | exact hown2 | (rw [← HN.out]; exact hown2)⟩
    · have s1 := ne_empty S z0
      have s2 := s1.1
      have s3 := s1.2
      clear s1
      by_cases z3 : S.size < 2
      · have d1 : decide ((S.size : Int) < 2) = true := decide_eq_true (by omega)
        have d2 : decide (S.size < 2) = true := decide_eq_true z3
        have e := HD.out
        rw [decT_short _ _ _ (by intro q; apply z0; rw [size_data, q]; rfl) (by rw [← size_data]; exact z3)] at e
        obtain ⟨rfl, rfl⟩ : [] = m ∧ 4 = c := by injection e with a b; exact ⟨a, b⟩
        clear e z0
        go_wp2
        go_ret2
        exact ⟨_, rfl, hg, World.ownsRow_nil _ _ _ _⟩
      · have d1 : decide ((S.size : Int) < 2) = false := decide_eq_false (by omega)
        have d2 : decide (S.size < 2) = false := decide_eq_false z3
        obtain ⟨a, b, r, hS⟩ := pair2 S.data.toList (by rw [← size_data]; omega)
        have zn := fun W : World => rnumber_c S (by omega) a b r hS W
        have hrl : r.length + 2 = S.size := by rw [size_data, hS]; simp
        have e := HD.out
        rw [hS, decT_some, HN.out] at e
        obtain ⟨N, hN⟩ : ∃ N, unword a b = N := ⟨_, rfl⟩
        have hNl := unword_lt a b
        rw [hN] at zn e hNl
        have HS := Lib.hid hS
        clear z0 hN hS
        by_cases q1 : most ≤ (n : Int)
        · rw [if_pos q1] at e
          obtain ⟨rfl, rfl⟩ : [] = m ∧ 3 = c := by injection e with a b; exact ⟨a, b⟩
          have f1 : decide (most ≤ (n : Int)) = true := decide_eq_true q1
          clear e
          go_wp2
          go_ret2
          exact ⟨_, rfl, HG.out, World.ownsRow_nil _ _ _ _⟩
        · have f1 : decide (most ≤ (n : Int)) = false := decide_eq_false q1
          rw [if_neg q1] at e
          by_cases q3 : r.length < N
          · rw [if_pos q3] at e
            obtain ⟨rfl, rfl⟩ : [] = m ∧ 4 = c := by injection e with a b; exact ⟨a, b⟩
            have f6 : decide ((S.size : Int) < 2 + (N : Int)) = true := decide_eq_true (by omega)
            have f7 : decide (S.size < 2 + N) = true := decide_eq_true (by omega)
            clear e
            go_wp2_with (go_at_call 72; ((with_reducible refine (zn _).mono ?_); rintro e w2 ⟨rfl, g⟩; replace HG := htrans HG g; replace hown := ownsRow_wider hown g))
            go_ret2
            exact ⟨_, rfl, HG.out, World.ownsRow_nil _ _ _ _⟩
          · rw [if_neg q3] at e
            have f6 : decide ((S.size : Int) < 2 + (N : Int)) = false := decide_eq_false (by omega)
            have f7 : decide (S.size < 2 + N) = false := decide_eq_false (by omega)
            have i4 : (2 : Int) ≤ 2 + (N : Int) := by omega
            have i5 : 2 + (N : Int) ≤ (S.size : Int) := by omega
            have w1 : IntKind.i64.wrap (2 + (N : Int)) = 2 + (N : Int) := by simp [IntKind.wrap, IntKind.bits, IntKind.signed]; omega
            have w3 : (2 + (N : Int)).toNat = 2 + N := by omega
            have hV : mkB (r.take N) = S.extract 2 (2 + N) := by
              apply ba_ext; rw [mkB_data, extract_list, HS.out]
              rw [show 2 + N = N + 1 + 1 by omega]
              simp
            have hW : (S.extract (2 + N) S.size).data.toList = r.drop N := by
              rw [extract_list, HS.out, List.take_of_length_le (by rw [← HS.out, size_data]; exact Nat.le_refl _)]
              rw [show 2 + N = N + 1 + 1 by omega]; rfl
            have hWs : (S.extract (2 + N) S.size).size = S.size - (2 + N) := by rw [size_data, hW, List.length_drop]; omega
            rw [hV, ← hW] at e
            obtain ⟨V, hV2⟩ : ∃ V, S.extract 2 (2 + N) = V := ⟨_, rfl⟩
            rw [hV2] at e
            have HE := Lib.hid e
            have HW := Lib.hid hWs
            have SIDE := fun w2 : World => Lib.hid (lies1 w2 (.string V) 9 rfl)
            have SIDE3 : Hid (n + 1 ≤ maxLen) := by show n + 1 ≤ maxLen; unfold maxLen; omega
            have SIDE4 : Hid ((n + 1) * 16 ≤ 140737488355328) := by show (n + 1) * 16 ≤ 140737488355328; omega
            clear e hV hW hWs
            go_wp2_with (first
              | (go_at_call 72; ((with_reducible refine (zn _).mono ?_); rintro e w2 ⟨rfl, g⟩; replace HG := htrans HG g; replace hown := ownsRow_wider hown g))
              | (at_builtin; refine wpList_append_own _ rfl (.tmp 24) (.tmp 29) 152 rfl w.heap.size 9 i0 (.string ⟨#[]⟩) 1 16 Tryz.underlying152 hi hz0 hz1 hz2 rfl (by decide) _ _ _ rfl (hown.alloc _) ⟨w2.heap.size, 0, none⟩ 1 1 [.string V] rfl rfl (SIDE w2).out.1 (SIDE w2).out.2 SIDE3.out SIDE4.out (by show w.heap.size ≤ (w2.heap.push _).size; have := HG.out.2; simp; omega) ?_; intro v' w3 hown' hgrow hnil))
            have G1 := wider_appendA (o := .cells #[.string V] 9) HG.out hown (by exact hgrow)
            rw [← cellsS_snoc] at hown'
            have hv : ∃ A cap, v' = .slice A (n + 1) cap := by
              obtain ⟨A, cap, e, _⟩ := strsAt_own hown'
              exact ⟨A, cap, e⟩
            clear hgrow hnil hown
            go_roundw
            case rel => exact ⟨S.extract (2 + N) S.size, rfl, acc ++ [V], n + 1, by simp [HN.out], hv, hown', HE.out, by have := HW.out; omega, G1⟩
            case measure => simp [strLen]; have := HW.out; omega

end Go.Proofs.YtilpimilbjcifaaGreatDoor
