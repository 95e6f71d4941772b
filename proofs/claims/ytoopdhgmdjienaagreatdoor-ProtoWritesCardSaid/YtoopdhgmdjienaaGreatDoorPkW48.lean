/- PTHas PEx OAwake PAwake POnly -/
import Derived.Test.YtoopdhgmdjienaaGreatDoorPkW37
import Derived.Test.YtoopdhgmdjienaaGreatDoorPkW04
import Derived.WalkKit
import Derived.Lib.Hide
import Derived.Deep.DeepCutAuto
import Derived.WalkLawsBesides
import Derived.WalkSpells
import Derived.BigQuiet
import Derived.Test.YtoopdhgmdjienaaGreatDoorPkW42
import Derived.Test.YtoopdhgmdjienaaGreatDoorPkW16
import Derived.Test.YtoopdhgmdjienaaGreatDoorPkW22
import Derived.Test.YtoopdhgmdjienaaGreatDoorPkW20
import Derived.Test.YtoopdhgmdjienaaGreatDoorPkW33
import Derived.Test.YtoopdhgmdjienaaGreatDoorPkW34
import Derived.Test.YtoopdhgmdjienaaGreatDoorPkW31
namespace Go.Proofs.YtoopdhgmdjienaaGreatDoor
set_option linter.unusedVariables false
set_option maxRecDepth 20000
open Go.ChangeShapes Go.WideShapes Go.ChangeAt Go.RowKit Go.Joins
open Go.ChangeMaps (open_string shut_string)
def uptoT (k j : Nat) : List Nat := (List.range' 1 (j - 1)).filter fun t => decide (t ∈ hasL k)
theorem uptoT_next (k j : Nat) (hj : 1 ≤ j) : uptoT k (j + 1) = if j ∈ hasL k then uptoT k j ++ [j] else uptoT k j := by
 unfold uptoT
 have e : j + 1 - 1 = (j - 1) + 1 := by omega
 rw [e, List.range'_1_concat, List.filter_append]
 have e2 : 1 + (j - 1) = j := by omega
 rw [e2]
 by_cases c : j ∈ hasL k
 · simp [c]
 · simp [c]
theorem uptoT_all : ((List.range 256).all fun k => uptoT k 18 == hasL k) = true := by kernel_rfl
theorem uptoT_end {k : Nat} (hk : k < 256) : uptoT k 18 = hasL k := eq_of_beq (List.all_eq_true.1 uptoT_all k (List.mem_range.2 hk))
theorem uptoT_len (k j : Nat) : (uptoT k j).length ≤ j := Nat.le_trans (List.length_filter_le _ _) (by rw [List.length_range']; omega)
set_option maxHeartbeats 4000000 in
theorem thas_c (w : World) (k : Nat) (hk : k < 256) (HK : KindsAt w) :
 Calls Tryz.prog 13 #[.int .u8 (k : Int)] w fun e w' => ∃ v, e = .returned v ∧ Wider w w' ∧ w'.ownsRow w.heap.size 5 1 v (hasL k).length (cells8 (hasL k)) := by
 obtain ⟨i0, hi, hz0, hz1, hz2⟩ := infoN_parts
 have HH0 := Lib.hid HK
 clear HK
 go_enter Tryz.func13, Tryz.ntmps13
 go_wp2
 go_loopw [3, 4] (fun v i wr => ∃ j : Nat, 1 ≤ j ∧ j ≤ 18 ∧ i = .int .u8 (j : Int) ∧ Wider w wr ∧ wr.ownsRow w.heap.size 5 1 v (uptoT k j).length (cells8 (uptoT k j))) (fun _ i _ => 18 - (intOf i).toNat)
 case atStart => exact ⟨1, by omega, by omega, rfl, Wider.refl w, own8_none w _⟩
 case round =>
  obtain ⟨j, hj1, hj2, rfl, g, ho⟩ := hrel
  have HO := Lib.hid ho
  have HG := Lib.hid g
  by_cases c : j < 18
  · have j0 : (j : Int) ≤ 17 := by omega
    obtain ⟨r, hr⟩ : ∃ r : Bool, r = decide (j ∈ hasL k) := ⟨_, rfl⟩
    have zh := has_c wr k j hk (by omega) (HH0.out.on g) hr
    have hl := uptoT_len k j
    have S3 : Hid ((uptoT k j).length + 1 ≤ maxLen) := by show _ ≤ maxLen; unfold maxLen; omega
    have S4 : Hid (((uptoT k j).length + 1) * 1 ≤ 140737488355328) := by show _ ≤ _; omega
    have SIDE := Lib.hid (lies1 wr (.int .u8 (j : Int)) 5 rfl)
    have S5 : Hid (w.heap.size ≤ (wr.alloc (.cells #[.int .u8 (j : Int)] 5)).heap.size) := by show _ ≤ (wr.heap.push _).size; have := g.2; simp; omega
    have HO1 := Lib.hid (ho.alloc (.cells #[.int .u8 (j : Int)] 5))
    have HR := Lib.hid hr
    clear hr g ho hl
    cases r with
    | true =>
      have hm : j ∈ hasL k := of_decide_eq_true HR.out.symm
      have e := uptoT_next k j hj1
      rw [if_pos hm] at e
      have HE := Lib.hid e
      clear e hm
      go_wp2_with (first
       | (go_at_call 34; (refine zh.mono ?_); rintro e wN ⟨rfl, q⟩; obtain rfl := q.symm)
       | (at_builtin; refine wpList_append_own _ rfl (.tmp 12) (.tmp 14) 24 rfl w.heap.size 5 i0 (.int .u8 0) 1 1 Tryz.underlying24 hi hz0 hz1 hz2 rfl (by decide) _ _ _ rfl HO1.out ⟨wr.heap.size, 0, none⟩ 1 1 [.int .u8 (j : Int)] rfl rfl SIDE.out.1 SIDE.out.2 S3.out S4.out S5.out ?_; intro v1 w1 hown1 hgrow1 _; have G1 := wider_appendA HG.out HO.out hgrow1; have HO2 := Lib.hid hown1; clear hown1 hgrow1))
      go_roundw
      case rel => exact ⟨j + 1, by omega, by omega, by go_num, G1, by
       have h := HO2.out
       rw [HE.out, List.length_append]
       show World.ownsRow _ _ _ _ _ _ (cells8 (uptoT k j ++ [j]))
       rw [show cells8 (uptoT k j ++ [j]) = cells8 (uptoT k j) ++ [.int .u8 (j : Int)] by simp [cells8]]
       exact h⟩
      case measure => simp [intOf]; omega
    | false =>
      have hm : ¬ j ∈ hasL k := of_decide_eq_false HR.out.symm
      have e := uptoT_next k j hj1
      rw [if_neg hm] at e
      have HE := Lib.hid e
      clear e hm
      go_wp2_with (first
       | (go_at_call 34; (refine zh.mono ?_); rintro e wN ⟨rfl, q⟩; obtain rfl := q.symm))
      go_roundw
      case rel => exact ⟨j + 1, by omega, by omega, by go_num, HG.out, by rw [HE.out]; exact HO.out⟩
      case measure => simp [intOf]; omega
  · obtain rfl : j = 18 := by omega
    have j0 : ¬ (18 : Int) ≤ 17 := by omega
    rw [uptoT_end hk] at ho
    clear c HO
    go_wp2
    go_ret
    exact ⟨_, rfl, g, ho⟩
theorem decM_ok (k b1 b2 b3 b4 : UInt8) (rest : List UInt8) (h1 : 1 ≤ k.toNat) (h2 : k.toNat ≤ 46) (hl : rest.length ≤ 16000) {m : List AtN} {ps : List PartN} (hd : decA [] 0 rest = (m, 0)) (hr : readG (csM 65535 k.toNat) zeroP m = some ps) :
 decM (k :: b1 :: b2 :: b3 :: b4 :: rest) = ((k.toNat, readB [b1, b2, b3, b4], ps), 0) := by
 have e : decG (csM 65535 k.toNat) rest = (ps, 0) := by unfold decG; rw [hd, zeroG_csM]; simp only [if_true]; rw [hr]
 have l : (k :: b1 :: b2 :: b3 :: b4 :: rest).length = rest.length + 5 := rfl
 unfold decM
 rw [if_neg (by omega), if_neg (by omega)]
 show (if k.toNat < 1 ∨ 46 < k.toNat then _ else _) = _
 rw [if_neg (by omega)]
 show (if (decG (csM 65535 k.toNat) rest).2 = 0 then _ else _) = _
 rw [e, if_pos rfl]
 show ((k.toNat, readB [b1, b2, b3, b4], (decG (csM 65535 k.toNat) rest).1), 0) = _
 rw [e]
theorem decM_no (k b1 b2 b3 b4 : UInt8) (rest : List UInt8) (h1 : 1 ≤ k.toNat) (h2 : k.toNat ≤ 46) (hl : rest.length ≤ 16000) {m : List AtN} (hd : decA [] 0 rest = (m, 0)) (hr : readG (csM 65535 k.toNat) zeroP m = none) :
 decM (k :: b1 :: b2 :: b3 :: b4 :: rest) = ((0, 0, zeroP), 3) := by
 have e : decG (csM 65535 k.toNat) rest = (zeroP, 3) := by unfold decG; rw [hd, zeroG_csM]; simp only [if_true]; rw [hr]
 have l : (k :: b1 :: b2 :: b3 :: b4 :: rest).length = rest.length + 5 := rfl
 unfold decM
 rw [if_neg (by omega), if_neg (by omega)]
 show (if k.toNat < 1 ∨ 46 < k.toNat then _ else _) = _
 rw [if_neg (by omega)]
 show (if (decG (csM 65535 k.toNat) rest).2 = 0 then _ else _) = _
 rw [e, if_neg (by decide)]
 show ((0, 0, zeroP), (decG (csM 65535 k.toNat) rest).2) = _
 rw [e]
theorem ex1 : MayM 1 zeroP ∧ bodyM 1 258 zeroP = [1, 0, 0, 1, 2] := by
 have q : decM [1, 0, 0, 1, 2] = ((1, 258, zeroP), 0) := decM_ok 1 0 0 1 2 [] (by decide) (by decide) (by decide) (decA_nil [] 0) rfl
 exact ⟨(decM_inv q).1, (decM_inv q).2.2.1⟩
theorem ex4 : MayM 13 zeroP ∧ bodyM 13 9 zeroP = [13, 0, 0, 0, 9] := by
 have q : decM [13, 0, 0, 0, 9] = ((13, 9, zeroP), 0) := decM_ok 13 0 0 0 9 [] (by decide) (by decide) (by decide) (decA_nil [] 0) rfl
 exact ⟨(decM_inv q).1, (decM_inv q).2.2.1⟩
def ps2 : List PartN := zeroP.set 2 (.one (.num 5))
theorem ex2 : MayM 10 ps2 ∧ bodyM 10 1 ps2 = [10, 0, 0, 0, 1, 3, 0, 1, 5] := by
 have d : decA [] 0 [3, 0, 1, 5] = ([⟨3, mkB [5]⟩], 0) := by
  rw [decA_some, if_neg (by decide), if_neg (by decide)]
  show decA [⟨3, mkB [5]⟩] 3 [] = _
  rw [decA_nil]
 have s : readG (csM 65535 10) zeroP [⟨3, mkB [5]⟩] = some ps2 := rfl
 have q : decM [10, 0, 0, 0, 1, 3, 0, 1, 5] = ((10, 1, ps2), 0) := decM_ok 10 0 0 0 1 [3, 0, 1, 5] (by decide) (by decide) (by decide) d s
 exact ⟨(decM_inv q).1, (decM_inv q).2.2.1⟩
def ps3 : List PartN := (zeroP.set 0 (.one (.num 3))).set 8 (.one (.lst [[0], [1]]))
theorem ex3 : MayM 32 ps3 ∧ bodyM 32 0 ps3 = [32, 0, 0, 0, 0, 1, 0, 1, 3, 9, 0, 5, 0, 0, 0, 1, 1] := by
 have d : decA [] 0 [1, 0, 1, 3, 9, 0, 5, 0, 0, 0, 1, 1] = ([⟨1, mkB [3]⟩, ⟨9, mkB [0, 0, 0, 1, 1]⟩], 0) := by
  rw [decA_some, if_neg (by decide), if_neg (by decide)]
  show decA [⟨1, mkB [3]⟩] 1 [9, 0, 5, 0, 0, 0, 1, 1] = _
  rw [decA_some, if_neg (by decide), if_neg (by decide)]
  show decA [⟨1, mkB [3]⟩, ⟨9, mkB [0, 0, 0, 1, 1]⟩] 9 [] = _
  rw [decA_nil]
 have dT : decT [] 128 [0, 0, 0, 1, 1] = ([mkB [], mkB [1]], 0) := by
  rw [decT_some, if_neg (by decide), if_neg (by decide)]
  show decT [mkB []] 128 [0, 1, 1] = _
  rw [decT_some, if_neg (by decide), if_neg (by decide)]
  show decT [mkB [], mkB [1]] 128 [] = _
  rw [decT_nil]
 have s1 : stepG (csM 65535 32) zeroP ⟨1, mkB [3]⟩ = some (zeroP.set 0 (.one (.num 3))) := rfl
 have s2 : stepG (csM 65535 32) (zeroP.set 0 (.one (.num 3))) ⟨9, mkB [0, 0, 0, 1, 1]⟩ = some ps3 := by
  rw [stepM_yes (by decide) (by decide)]
  show ((if (decT [] 128 [0, 0, 0, 1, 1]).2 = 0 then (mapD cArg.dec (decT [] 128 [0, 0, 0, 1, 1]).1).map ValN.lst else none : Option ValN).map PartN.one).map _ = _
  rw [dT]; rfl
 have s : readG (csM 65535 32) zeroP [⟨1, mkB [3]⟩, ⟨9, mkB [0, 0, 0, 1, 1]⟩] = some ps3 := by
  unfold readG; rw [s1]; dsimp only
  unfold readG; rw [s2]; rfl
 have q : decM [32, 0, 0, 0, 0, 1, 0, 1, 3, 9, 0, 5, 0, 0, 0, 1, 1] = ((32, 0, ps3), 0) := decM_ok 32 0 0 0 0 _ (by decide) (by decide) (by decide) d s
 exact ⟨(decM_inv q).1, (decM_inv q).2.2.1⟩
theorem ex5 : decM [99, 0, 0, 0, 0] = ((0, 0, zeroP), 15) := by
 unfold decM
 rw [if_neg (by decide), if_neg (by decide)]
 dsimp only
 rw [if_pos (by decide)]
theorem ex6 : decM [1, 0, 0, 0, 0, 1, 0, 1, 5] = ((0, 0, zeroP), 3) := by
 have d : decA [] 0 [1, 0, 1, 5] = ([⟨1, mkB [5]⟩], 0) := by
  rw [decA_some, if_neg (by decide), if_neg (by decide)]
  show decA [⟨1, mkB [5]⟩] 1 [] = _
  rw [decA_nil]
 exact decM_no 1 0 0 0 0 _ (by decide) (by decide) (by decide) d rfl
def exM2 : Array Value := (headM 10 1).setIfInBounds 4 (.int .i64 5)
theorem exM2_rep (w : World) : ∃ d, RepD w exM2 d ∧ d.kind = ((10 : Nat) : Int) ∧ d.xid = ((1 : Nat) : Int) ∧ d.ps = ps2 :=
 ⟨_, (headM_rep w 10 1 (by decide) (by decide)).set2 5 rfl, rfl, rfl, rfl⟩
def exM3 (v : Value) : Array Value := ((headM 32 0).setIfInBounds 2 (.int .i64 3)).setIfInBounds 10 v
theorem exM3_rep (w : World) {v : Value} {A : Option Addr} {n cap : Nat} (h : RowW w v [[0], [1]] A n cap) : ∃ d, RepD w (exM3 v) d ∧ d.kind = ((32 : Nat) : Int) ∧ d.xid = ((0 : Nat) : Int) ∧ d.ps = ps3 :=
 ⟨_, ((headM_rep w 32 0 (by decide) (by decide)).set0 3 rfl).set8 h, rfl, rfl, rfl⟩
theorem n5 : numB 5 = [5] := by rw [numB_pos 5 (by decide), show 5 / 256 = 0 from rfl, numB_0]; rfl
theorem n1 : numB 1 = [1] := by rw [numB_pos 1 (by decide), show 1 / 256 = 0 from rfl, numB_0]; rfl
theorem rows8 (l : List Nat) : ∀ x ∈ rowsK ks8 (L8 l), ∃ v0 : Int, x = [.int .u8 v0] := by
 intro x hx
 unfold rowsK L8 at hx
 obtain ⟨y, hy, rfl⟩ := List.mem_map.1 hx
 obtain ⟨t, _, rfl⟩ := List.mem_map.1 hy
 exact ⟨_, rfl⟩
theorem wfW01 : ∀ x ∈ [[0], [1]], wfK ksArg x := by
 intro x hx
 have q : x = [0] ∨ x = [1] := by simpa using hx
 rcases q with rfl | rfl
 all_goals
  refine ⟨rfl, fun i k n h1 h2 => ?_⟩
  match i, h1, h2 with
  | 0, h1, h2 => simp [ksArg] at h1 h2; subst h1 h2; rfl
  | i + 1, h1, h2 => simp [ksArg] at h1
theorem getOk_of {S : ByteArray} {l : List UInt8} {m : List AtN} (hl : S.data.toList.drop 5 = l) (hd : decA [] 0 l = (m, 0)) (h : GetOk m) : ∀ m', decA [] 0 (S.extract 5 S.size).data.toList = (m', 0) → GetOk m' := by
 intro m' e
 have q : (S.extract 5 S.size).data.toList = l := by rw [extract_list, List.take_of_length_le (by rw [← size_data]; omega)]; exact hl
 rw [q, hd] at e
 injection e with e
 subst e
 exact h
theorem getOk_nil : GetOk [] := fun t q h => by cases h
theorem getOk_cons {t : Nat} {q : ByteArray} {m : List AtN} (ht : t = 1 ∨ t = 3 ∨ t = 9) (h : GetOk m) : GetOk (⟨t, q⟩ :: m) := fun t' q' hm => by
 intro w B b0 M d hB hb hz R hs h1 h2
 rcases List.mem_cons.1 hm with e | hm
 · injection e with e1 e2
   subst e1 e2
   rcases ht with rfl | rfl | rfl
   · exact pget_1 hB hb hz R q' hs
   · exact pget_3 hB hb hz R q' hs
   · exact pget_9 hB hb hz R q' hs
 · exact h t' q' hm hB hb hz R hs h1 h2
theorem dx3 : decA [] 0 [3, 0, 1, 5] = ([⟨3, mkB [5]⟩], 0) := by
 rw [decA_some, if_neg (by decide), if_neg (by decide)]
 show decA [⟨3, mkB [5]⟩] 3 [] = _
 rw [decA_nil]
theorem dx1 : decA [] 0 [1, 0, 1, 5] = ([⟨1, mkB [5]⟩], 0) := by
 rw [decA_some, if_neg (by decide), if_neg (by decide)]
 show decA [⟨1, mkB [5]⟩] 1 [] = _
 rw [decA_nil]
theorem dx19 : decA [] 0 [1, 0, 1, 3, 9, 0, 5, 0, 0, 0, 1, 1] = ([⟨1, mkB [3]⟩, ⟨9, mkB [0, 0, 0, 1, 1]⟩], 0) := by
 rw [decA_some, if_neg (by decide), if_neg (by decide)]
 show decA [⟨1, mkB [3]⟩] 1 [9, 0, 5, 0, 0, 0, 1, 1] = _
 rw [decA_some, if_neg (by decide), if_neg (by decide)]
 show decA [⟨1, mkB [3]⟩, ⟨9, mkB [0, 0, 0, 1, 1]⟩] 9 [] = _
 rw [decA_nil]
theorem aw1 (W : World) (K : KindsAt W) : Calls Tryz.prog 14 #[.agg (headM 1 258), .string ⟨#[1, 0, 0, 1, 2]⟩] W fun e w' => e = .returned (.bool true) ∧ Wider W w' :=
 pis_g W (headM_rep W 1 258 (by decide) (by decide)) K 1 258 (by decide) (by decide) rfl rfl ex1.1 (by show (bodyM 1 258 zeroP).length ≤ _; rw [ex1.2]; decide) (by show _ = mkB (bodyM 1 258 zeroP); rw [ex1.2]; rfl) (getOk_of rfl (decA_nil [] 0) getOk_nil)
theorem aw2 (W : World) (K : KindsAt W) : Calls Tryz.prog 14 #[.agg exM2, .string ⟨#[10, 0, 0, 0, 1, 3, 0, 1, 5]⟩] W fun e w' => e = .returned (.bool true) ∧ Wider W w' := by
 obtain ⟨d, R, h1, h2, h3⟩ := exM2_rep W
 exact pis_g W R K 10 1 (by decide) (by decide) h1 h2 (by rw [h3]; exact ex2.1) (by rw [h3, ex2.2]; decide) (by rw [h3, ex2.2]; rfl) (getOk_of rfl dx3 (getOk_cons (.inr (.inl rfl)) getOk_nil))
theorem aw3 (W : World) (t : TypeId) (K : KindsAt (W.alloc (.cells #[.int .u64 0, .int .u64 1] t))) : Calls Tryz.prog 14 #[.agg (exM3 (.slice (some ⟨W.heap.size, 0, none⟩) 2 2)), .string ⟨#[32, 0, 0, 0, 0, 1, 0, 1, 3, 9, 0, 5, 0, 0, 0, 1, 1]⟩] (W.alloc (.cells #[.int .u64 0, .int .u64 1] t)) fun e w' => e = .returned (.bool true) ∧ Wider (W.alloc (.cells #[.int .u64 0, .int .u64 1] t)) w' := by
 obtain ⟨d, R, h1, h2, h3⟩ := exM3_rep (W.alloc (.cells #[.int .u64 0, .int .u64 1] t)) (v := .slice (some ⟨W.heap.size, 0, none⟩) 2 2) ⟨rfl, rowK_new W ksArg [[0], [1]] t _ rfl (by decide), rfl, by decide, wfW01⟩
 exact pis_g _ R K 32 0 (by decide) (by decide) h1 h2 (by rw [h3]; exact ex3.1) (by rw [h3, ex3.2]; decide) (by rw [h3, ex3.2]; rfl) (getOk_of rfl dx19 (getOk_cons (.inl rfl) (getOk_cons (.inr (.inr rfl)) getOk_nil)))
theorem aw4 (W : World) (K : KindsAt W) : Calls Tryz.prog 14 #[.agg (headM 13 9), .string ⟨#[13, 0, 0, 0, 9]⟩] W fun e w' => e = .returned (.bool true) ∧ Wider W w' :=
 pis_g W (headM_rep W 13 9 (by decide) (by decide)) K 13 9 (by decide) (by decide) rfl rfl ex4.1 (by show (bodyM 13 9 zeroP).length ≤ _; rw [ex4.2]; decide) (by show _ = mkB (bodyM 13 9 zeroP); rw [ex4.2]; rfl) (getOk_of rfl (decA_nil [] 0) getOk_nil)
theorem aw5 (W : World) (K : KindsAt W) : Calls Tryz.prog 19 #[.string ⟨#[99, 0, 0, 0, 0]⟩, .int .i64 15] W fun e w' => e = .returned (.bool true) ∧ Wider W w' :=
 prefused_g W K ⟨#[99, 0, 0, 0, 0]⟩ (by decide) (r := 15) ex5 (getOk_of rfl (decA_nil [] 0) getOk_nil)
theorem aw6 (W : World) (K : KindsAt W) : Calls Tryz.prog 19 #[.string ⟨#[1, 0, 0, 0, 0, 1, 0, 1, 5]⟩, .int .i64 3] W fun e w' => e = .returned (.bool true) ∧ Wider W w' :=
 prefused_g W K ⟨#[1, 0, 0, 0, 0, 1, 0, 1, 5]⟩ (by decide) (r := 3) ex6 (getOk_of rfl dx1 (getOk_cons (.inl rfl) getOk_nil))
theorem aw7 (W : World) (K : KindsAt W) : Calls Tryz.prog 13 #[.int .u8 30] W fun e w' => ∃ A cp, e = .returned (.slice A 3 cp) ∧ Wider W w' ∧ RowAt w' A 1 (rowsK ks8 (L8 [1, 6, 7])) :=
 (thas_c W 30 (by decide) K).mono fun e w' ⟨v, he, g, ho⟩ => by
  obtain ⟨A, cp, rfl, hA⟩ := own8_row ho
  exact ⟨A, cp, he, g, hA⟩
theorem aw8 (W : World) (t : TypeId) (A : Option Addr) (cp : Nat) (hA : RowAt (W.alloc (.cells #[.int .u8 1, .int .u8 6, .int .u8 7] t)) A 1 (rowsK ks8 (L8 [1, 6, 7]))) :
 Calls Tryz.prog 28 #[.slice A 3 cp, .slice (some ⟨W.heap.size, 0, none⟩) 3 3] (W.alloc (.cells #[.int .u8 1, .int .u8 6, .int .u8 7] t)) fun e w' => e = .returned (.bool true) ∧ Wider (W.alloc (.cells #[.int .u8 1, .int .u8 6, .int .u8 7] t)) w' :=
 types_c (W.alloc (.cells #[.int .u8 1, .int .u8 6, .int .u8 7] t)) A (some ⟨W.heap.size, 0, none⟩) 3 cp 3 3 _ _ hA (rowK_new W ks8 (L8 [1, 6, 7]) t _ rfl (by decide)) rfl rfl (by decide) (by decide) (rows8 _) (rows8 _) (r := true) ⟨fun _ => rfl, fun _ => rfl⟩
set_option maxHeartbeats 8000000 in
theorem awake9_c (w : World) (K : KindsAt w) : Calls Tryz.prog 11 #[] w fun e w' => e = .returned (.bool true) ∧ Wider w w' := by
 have G : Hid (Wider w w) := Wider.refl w
 have HK := Lib.hid K
 clear K
 go_enter Tryz.func11, Tryz.ntmps11
 go_wp2_with (first
  | (with_reducible refine wpList_run_val rfl 51 #[(0, .const (.int .u8 1)), (1, .const (.int .u32 258))] rfl (ps := #[(0, .int .u8 1), (1, .int .u32 258)]) (by kernel_rfl) (run_build _ _ _ (headM 1 258) (by kernel_rfl)) ?_)
  | (with_reducible refine wpList_run_val_w (by kernel_rfl) 51 #[(0, .const (.int .u8 10)), (1, .const (.int .u32 1)), (4, .const (.int .i64 5))] rfl (ps := #[(0, .int .u8 10), (1, .int .u32 1), (4, .int .i64 5)]) (by kernel_rfl) (run_build _ _ _ exM2 (by kernel_rfl)) ?_)
  | (with_reducible refine wpList_run_val_w (by kernel_rfl) 51 #[(0, .const (.int .u8 32)), (2, .const (.int .i64 3)), (10, .tmp 8)] rfl (ps := #[(0, .int .u8 32), (2, .int .i64 3), (10, .slice (some ⟨w2.heap.size, 0, none⟩) 2 2)]) (by kernel_rfl) (run_build _ _ _ (exM3 (.slice (some ⟨w2.heap.size, 0, none⟩) 2 2)) (by kernel_rfl)) ?_)
  | (with_reducible refine wpList_run_val_w (by kernel_rfl) 51 #[(0, .const (.int .u8 13)), (1, .const (.int .u32 9))] rfl (ps := #[(0, .int .u8 13), (1, .int .u32 9)]) (by kernel_rfl) (run_build _ _ _ (headM 13 9) (by kernel_rfl)) ?_)
  | (go_at_call 14; (with_reducible refine (aw1 _ HK.out).mono ?_); rintro e w1 ⟨rfl, g1⟩; have K1 := Lib.hid (HK.out.on g1); replace G := htrans G g1; clear g1)
  | (go_at_call 14; (with_reducible refine (aw2 _ K1.out).mono ?_); rintro e w2 ⟨rfl, g1⟩; have K2 := Lib.hid (K1.out.on g1); replace G := htrans G g1; clear g1)
  | (go_at_call 14; (with_reducible refine (aw3 _ _ (K2.out.on ((Wider.refl _).alloc _))).mono ?_); rintro e w3 ⟨rfl, g1⟩; have g2 := ((Wider.refl _).alloc _).trans g1; have K3 := Lib.hid (K2.out.on g2); replace G := htrans G g2; clear g1 g2)
  | (go_at_call 14; (with_reducible refine (aw4 _ K3.out).mono ?_); rintro e w4 ⟨rfl, g1⟩; have K4 := Lib.hid (K3.out.on g1); replace G := htrans G g1; clear g1)
  | (go_at_call 19; (with_reducible refine (aw5 _ K4.out).mono ?_); rintro e w5 ⟨rfl, g1⟩; have K5 := Lib.hid (K4.out.on g1); replace G := htrans G g1; clear g1)
  | (go_at_call 19; (with_reducible refine (aw6 _ K5.out).mono ?_); rintro e w6 ⟨rfl, g1⟩; have K6 := Lib.hid (K5.out.on g1); replace G := htrans G g1; clear g1)
  | (go_at_call 13; (with_reducible refine (aw7 _ K6.out).mono ?_); rintro e w7 ⟨A, cp, rfl, g1, hA⟩; replace G := htrans G g1; clear g1)
  | (go_at_call 28; (with_reducible refine (aw8 _ _ _ _ (hA.on ((Wider.refl _).alloc _))).mono ?_); rintro e w8 ⟨rfl, g1⟩; have g2 := ((Wider.refl _).alloc _).trans g1; replace G := htrans G g2; clear g1 g2))
 go_ret
 exact ⟨rfl, G.out⟩
def OnlyAt (w wr : World) (M : Array Value) (d : MsgD) (k x B0 B3 n cp : Nat) (A : Option Addr) (l : List Nat) (X : Array Value) (d2 : MsgD) (j : Nat) : Prop :=
 RepD w X d2 ∧ d2.kind = (k : Int) ∧ d2.xid = (x : Int) ∧ d2.ps = pickP (l.take j) d.ps ∧ Own w wr [blkT B3 X 51, rowT 5 1 (.slice A n cp) n (cells8 l), blkT (B0 + 1) zM 51, blkT B0 M 51]
theorem only_next {w : World} {M X : Array Value} {d d2 e2 : MsgD} {k x : Nat} {l : List Nat} {j i : Nat} (hy : l[j]? = some (i + 1)) (hi : i < 17) (h : d2.ps = pickP (l.take j) d.ps) (hk : d2.kind = (k : Int)) (hx : d2.xid = (x : Int)) : (d2.tak d i).kind = (k : Int) ∧ (d2.tak d i).xid = (x : Int) ∧ (d2.tak d i).ps = pickP (l.take (j + 1)) d.ps := by
 obtain ⟨p1, p2, p3⟩ := tak_ps d2 d i hi
 refine ⟨p2.trans hk, p3.trans hx, ?_⟩
 rw [p1, h, take_next l j _ hy, ← pickP_snoc _ _ _ hi]; rfl
set_option maxHeartbeats 32000000 in
theorem ronly_c (w : World) {M : Array Value} {d : MsgD} (R : RepD w M d) (k x : Nat) (k9 : k < 256) (x9 : x < 4294967296) (hk : d.kind = (k : Int)) (hx : d.xid = (x : Int)) :
 Calls Tryz.prog 53 #[.agg M] w fun e w' => ∃ X d2, e = .returned (.agg X) ∧ Wider w w' ∧ RepD w' X d2 ∧ d2.kind = (k : Int) ∧ d2.xid = (x : Int) ∧ d2.ps = pickP (hasL k) d.ps := by
 have H0 := ((Own.nil (Wider.refl w)).blk M 51).blk zM 51
 have hz : (w.alloc (.cells M 51)).heap.size = w.heap.size + 1 := by simp
 rw [hz] at H0
 obtain ⟨W, hW⟩ : ∃ W, (w.alloc (.cells M 51)).alloc (.cells zM 51) = W := ⟨_, rfl⟩
 obtain ⟨B0, hB0⟩ : ∃ B, w.heap.size = B := ⟨_, rfl⟩
 rw [hW, hB0] at H0
 have sM := R.size
 have c0 := R.c0
 have c1 := R.c1
 rw [hk] at c0
 rw [hx] at c1
 have q0 := blk_cell H0.second 0 c0
 have q1 := blk_cell H0.second 1 c1
 have H3 := H0.blk zM 51
 have h3 := H3.head
 have zr := fun W : World => rhas_c W k k9
 unfold rhasGoal at zr
 have hl4 := hasL_len k9
 have hbt := fun t (h : t ∈ hasL k) => hasL_between k9 h
 obtain ⟨l, hl⟩ : ∃ l, hasL k = l := ⟨_, rfl⟩
 obtain ⟨n, hn⟩ : ∃ n, l.length = n := ⟨_, rfl⟩
 rw [hl] at hl4 zr hbt ⊢
 rw [hn] at hl4
 have HL := Lib.hid hn
 have HB := Lib.hid hbt
 have HR := Lib.hid R
 have n4 : (n : Int) < 4 := by omega
 clear hl hn hbt R hz hk hx
 go_enter Tryz.func53, Tryz.ntmps53
 go_upto_region 1 with (fail)
 try rw [hW]
 try rw [hB0]
 clear hW hB0
 go_upto_region 2 with (first
  | (with_reducible refine wpList_field rfl 51 (.tmp 1) _ rfl B0 0 _ rfl (by first | exact fieldM0 _ | exact fieldM1 _) ?_)
  | (with_reducible refine wpList_run_val rfl 51 #[(0, .tmp 7), (1, .tmp 9)] rfl (ps := #[(0, .int .u8 (k : Int)), (1, .int .u32 (x : Int))]) (by kernel_rfl) (run_build _ _ _ (headM k x) (by kernel_rfl)) ?_)
  | (with_reducible refine wpList_store_row rfl 51 (.tmp 3) (.tmp 10) rfl W.heap.size (headM k x) rfl rfl 51 zM h3 (by kernel_rfl) rfl (oneHead _ _) ?_; obtain ⟨g4, h4⟩ := setRow_facts (headM k x) h3))
 have H4 := H3.turn (s := blkT W.heap.size (headM k x) 51) g4 h4 (blk_stable _ _ _) (fun i m => ⟨.inl m, by simp only [List.mem_singleton] at m; subst m; exact (Array.getElem?_eq_some_iff.1 h4).1⟩)
 obtain ⟨W4, hW4⟩ : ∃ W4, World.setRow (W.alloc (.cells zM 51)) W.heap.size (headM k x) = W4 := ⟨_, rfl⟩
 rw [hW4] at H4 ⊢
 obtain ⟨B3, hB3⟩ : ∃ B, W.heap.size = B := ⟨_, rfl⟩
 rw [hB3] at H4 ⊢
 clear hW4 g4 h4 h3 H3 H0 hB3 q0 q1
 have q2 := blk_cell H4.drop.drop.head 0 c0
 go_upto_region 3 with (first
  | (with_reducible refine wpList_field rfl 51 (.tmp 1) _ rfl B0 0 _ rfl (by first | exact fieldM0 _ | exact fieldM1 _) ?_)
  | (go_at_call 29; (with_reducible refine (zr _).mono ?_); rintro e w5 ⟨v, rfl, g, ho⟩; have H5 := (H4.row g ho).swap))
 obtain ⟨A, cp, rfl, _⟩ := own8_row ho
 rw [HL.out] at H5 ⊢
 clear ho g q2 H4 zr
 go_wp2
 go_loopw [5] (fun i wr => ∃ (j : Nat) (X : Array Value) (d2 : MsgD), j ≤ n ∧ i = .int .i64 (j : Int) ∧ Hid (OnlyAt w wr M d k x B0 B3 n cp A l X d2 j)) (fun i _ => n - (intOf i).toNat)
 case atStart => exact ⟨0, headM k x, headD k x, by omega, by simp, headM_rep w k x k9 x9, rfl, rfl, by rw [List.take_zero, pickP_nil]; rfl, H5⟩
 case round =>
  obtain ⟨j, X, d2, hj, rfl, HO⟩ := hrel
  obtain ⟨RX, hkd, hxd, hps, H⟩ := HO.out
  clear H5
  by_cases cj : j < n
  · have j0 : (0 : Int) ≤ (j : Int) := by omega
    have j1 : (j : Int) < (n : Int) := by omega
    obtain ⟨t, hy⟩ : ∃ t, l[j]? = some t := ⟨l[j]'(by have := HL.out; omega), List.getElem?_eq_getElem _⟩
    obtain ⟨t1, t17⟩ := HB.out t (List.mem_of_getElem? hy)
    obtain ⟨i, rfl⟩ : ∃ i, t = i + 1 := ⟨t - 1, by omega⟩
    obtain ⟨A', cp', ea, hRow⟩ := own8_row (l := l) (by rw [HL.out]; exact H.second)
    injection ea with ea1 ea2 ea3
    subst ea1
    obtain ⟨a0, rfl, hc⟩ := row8_at hRow hy
    obtain ⟨n1, n2, n3⟩ := only_next (w := w) (M := M) (X := X) (e2 := d2) hy (by omega) hps hkd hxd
    have HN := Lib.hid (And.intro n1 (And.intro n2 n3))
    have h0 := H.drop.drop.drop.head
    have hX := H.head
    clear hy hRow ea2 ea3 n1 n2 n3 hps hkd hxd HO
    by_cases c9 : i < 9
    · obtain ⟨v, v0, e1, e0, R2, hF⟩ := tak_cell RX HR.out i c9
      replace hF := Lib.hid hF
      obtain ⟨M2, hM2⟩ : ∃ M2, X.setIfInBounds (i + 2) v = M2 := ⟨_, rfl⟩
      have H2 := H.store (i + 2) v
      rw [hM2] at R2 H2
      have HX := Lib.hid (And.intro (R2 w (Wider.refl w)) H2)
      have p1 := blk_cell h0 _ e1
      have p0 := blk_cell hX _ e0
      have p2 := blk_free hX (i + 2)
      clear e1 e0 R2 hM2 H2 RX H h0 hX
      obtain rfl | rfl | rfl | rfl | rfl | rfl | rfl | rfl | rfl : i = 0 ∨ i = 1 ∨ i = 2 ∨ i = 3 ∨ i = 4 ∨ i = 5 ∨ i = 6 ∨ i = 7 ∨ i = 8 := by omega
      all_goals
       clear c9 t1 t17
       have hG := hF.out
       clear hF
       simp [FormV] at hG
       obtain ⟨n, hG⟩ := hG
       first | subst hG | (obtain ⟨u2, u3, rfl⟩ := hG)
       simp only [Nat.reduceAdd, Int.cast_ofNat_Int] at p1 p0 p2 hc
       go_wp2_with (first
        | (with_reducible refine wpList_field rfl 51 (.tmp 1) _ rfl B0 0 _ rfl (by first | exact fieldM2 _ | exact fieldM3 _ | exact fieldM4 _ | exact fieldM5 _ | exact fieldM6 _ | exact fieldM7 _ | exact fieldM8 _ | exact fieldM9 _ | exact fieldM10 _) ?_)
        | (with_reducible refine wpList_field rfl 51 (.tmp 3) _ rfl B3 0 _ rfl (by first | exact fieldM2 _ | exact fieldM3 _ | exact fieldM4 _ | exact fieldM5 _ | exact fieldM6 _ | exact fieldM7 _ | exact fieldM8 _ | exact fieldM9 _ | exact fieldM10 _) ?_))
       go_roundw
       case rel => exact ⟨j + 1, M2, _, by omega, by go_num, HX.out.1, HN.out.1, HN.out.2.1, HN.out.2.2, HX.out.2⟩
       case measure => simp [intOf]; omega
    · obtain ⟨kk, rfl⟩ : ∃ kk, i = kk + 9 := ⟨i - 9, by omega⟩
      have sX := RX.size
      obtain ⟨c, hce, sc, oc, R2⟩ := tak_obj RX HR.out kk (by omega)
      obtain ⟨M2, hM2⟩ : ∃ M2, setPart X (offK kk) c = M2 := ⟨_, rfl⟩
      rw [hM2] at R2
      obtain ⟨g6, h6⟩ := setRow_facts M2 hX
      have H2 := H.turn (s := blkT B3 M2 51) g6 h6 (blk_stable _ _ _) (fun i m => ⟨.inl m, by simp only [List.mem_singleton] at m; subst m; exact (Array.getElem?_eq_some_iff.1 h6).1⟩)
      have HX := Lib.hid (And.intro (R2 w (Wider.refl w)) H2)
      have HM : Hid ((X.toList.take (offK kk) ++ c.toList ++ X.toList.drop (offK kk + c.size)).toArray = M2) := hM2
      clear R2 hM2 H2 RX H g6 h6
      obtain rfl | rfl | rfl | rfl | rfl | rfl | rfl | rfl : kk = 0 ∨ kk = 1 ∨ kk = 2 ∨ kk = 3 ∨ kk = 4 ∨ kk = 5 ∨ kk = 6 ∨ kk = 7 := by omega
      all_goals
       clear c9 t1 t17
       simp only [offK, Nat.reduceAdd, Nat.reduceSub, Int.cast_ofNat_Int] at hce sc HM hc
       go_wp2_with (first
        | (with_reducible refine wpList_field rfl 51 (.tmp 1) _ rfl B0 0 _ rfl (by first | exact fieldM11 _ | exact fieldM12 _ | exact fieldM13 _ | exact fieldM14 _ | exact fieldM15 _ | exact fieldM16 _ | exact fieldM17 _ | exact fieldM18 _) ?_)
        | (with_reducible refine wpList_field rfl 51 (.tmp 3) _ rfl B3 0 _ rfl (by first | exact fieldM11 _ | exact fieldM12 _ | exact fieldM13 _ | exact fieldM14 _ | exact fieldM15 _ | exact fieldM16 _ | exact fieldM17 _ | exact fieldM18 _) ?_)
        | (with_reducible refine wpList_load_part rfl 32 _ rfl B0 11 9 20 rfl rfl _ h0 (by rw [sM]; decide) Tryz.underlying32 rfl (by kernel_rfl) ?_; rw [hce])
        | (with_reducible refine wpList_load_part rfl 34 _ rfl B0 20 5 25 rfl rfl _ h0 (by rw [sM]; decide) Tryz.underlying34 rfl (by kernel_rfl) ?_; rw [hce])
        | (with_reducible refine wpList_load_part rfl 37 _ rfl B0 25 5 30 rfl rfl _ h0 (by rw [sM]; decide) Tryz.underlying37 rfl (by kernel_rfl) ?_; rw [hce])
        | (with_reducible refine wpList_load_part rfl 39 _ rfl B0 30 11 41 rfl rfl _ h0 (by rw [sM]; decide) Tryz.underlying39 rfl (by kernel_rfl) ?_; rw [hce])
        | (with_reducible refine wpList_load_part rfl 42 _ rfl B0 41 2 43 rfl rfl _ h0 (by rw [sM]; decide) Tryz.underlying42 rfl (by kernel_rfl) ?_; rw [hce])
        | (with_reducible refine wpList_load_part rfl 45 _ rfl B0 43 4 47 rfl rfl _ h0 (by rw [sM]; decide) Tryz.underlying45 rfl (by kernel_rfl) ?_; rw [hce])
        | (with_reducible refine wpList_load_part rfl 47 _ rfl B0 47 3 50 rfl rfl _ h0 (by rw [sM]; decide) Tryz.underlying47 rfl (by kernel_rfl) ?_; rw [hce])
        | (with_reducible refine wpList_load_part rfl 49 _ rfl B0 50 2 52 rfl rfl _ h0 (by rw [sM]; decide) Tryz.underlying49 rfl (by kernel_rfl) ?_; rw [hce])
        | (with_reducible refine wpList_store_part rfl 32 _ _ rfl B3 11 c rfl rfl 51 X hX (by rw [sc]; kernel_rfl) (by rw [sc, sX]; decide) oc (new := M2) HM.out ?_)
        | (with_reducible refine wpList_store_part rfl 34 _ _ rfl B3 20 c rfl rfl 51 X hX (by rw [sc]; kernel_rfl) (by rw [sc, sX]; decide) oc (new := M2) HM.out ?_)
        | (with_reducible refine wpList_store_part rfl 37 _ _ rfl B3 25 c rfl rfl 51 X hX (by rw [sc]; kernel_rfl) (by rw [sc, sX]; decide) oc (new := M2) HM.out ?_)
        | (with_reducible refine wpList_store_part rfl 39 _ _ rfl B3 30 c rfl rfl 51 X hX (by rw [sc]; kernel_rfl) (by rw [sc, sX]; decide) oc (new := M2) HM.out ?_)
        | (with_reducible refine wpList_store_part rfl 42 _ _ rfl B3 41 c rfl rfl 51 X hX (by rw [sc]; kernel_rfl) (by rw [sc, sX]; decide) oc (new := M2) HM.out ?_)
        | (with_reducible refine wpList_store_part rfl 45 _ _ rfl B3 43 c rfl rfl 51 X hX (by rw [sc]; kernel_rfl) (by rw [sc, sX]; decide) oc (new := M2) HM.out ?_)
        | (with_reducible refine wpList_store_part rfl 47 _ _ rfl B3 47 c rfl rfl 51 X hX (by rw [sc]; kernel_rfl) (by rw [sc, sX]; decide) oc (new := M2) HM.out ?_)
        | (with_reducible refine wpList_store_part rfl 49 _ _ rfl B3 50 c rfl rfl 51 X hX (by rw [sc]; kernel_rfl) (by rw [sc, sX]; decide) oc (new := M2) HM.out ?_))
       go_roundw
       case rel => exact ⟨j + 1, M2, _, by omega, by go_num, HX.out.1, HN.out.1, HN.out.2.1, HN.out.2.2, HX.out.2⟩
       case measure => simp [intOf]; omega
  · obtain rfl : j = n := by omega
    have i1 : ¬ (j : Int) < (j : Int) := by omega
    rw [List.take_of_length_le (by rw [HL.out]; exact Nat.le_refl _)] at hps
    have hX := H.head
    have h1 := H.drop.drop.head
    have sX := RX.size
    have oX := RX.one
    have HX := Lib.hid (And.intro RX (And.intro hkd (And.intro hxd hps)))
    have hg := H.wider
    have wB : w.heap.size ≤ B0 + 1 := (H.drop.drop.new _ (.head _) (B0 + 1) (.head _)).1
    clear H HO hps hkd hxd RX
    go_wp2_with (first
     | (with_reducible refine wpList_load_row rfl 51 (.tmp 3) rfl B3 rfl 51 X (0, 0) _ hX Tryz.underlying51 rfl (by rw [sX]; kernel_rfl) ?_)
     | (with_reducible refine wpList_store_row rfl 51 (.tmp 2) (.tmp 107) rfl (B0 + 1) X rfl rfl 51 zM h1 (by rw [sX]; kernel_rfl) (by rw [sX]; exact zM_size) oX ?_))
    obtain ⟨g7, h7⟩ := setRow_facts X h1
    have G7 := g7.wider hg (by intro i m; obtain rfl := List.mem_singleton.1 m; exact wB)
    have hl := run_loadVar_row (P := Tryz.prog) _ (B0 + 1) 51 51 _ (0, 0) _ h7 Tryz.underlying51 rfl (by rw [sX]; kernel_rfl)
    (try simp only [Act.put, List.setIfInBounds_toArray, List.set_cons_succ, List.set_cons_zero])
    simp [bodyPost, results, Tryz.results53, asAddr, hl]
    exact ⟨G7, d2, HX.out.1.on G7, HX.out.2.1, HX.out.2.2.1, HX.out.2.2.2⟩
end Go.Proofs.YtoopdhgmdjienaaGreatDoor
