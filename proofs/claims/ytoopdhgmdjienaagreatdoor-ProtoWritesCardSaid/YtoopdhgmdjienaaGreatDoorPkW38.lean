/- PEncW PSize PNum OSameNode ORs ORsNode -/
import Derived.Test.YtoopdhgmdjienaaGreatDoorPkW31
import Derived.Test.YtoopdhgmdjienaaGreatDoorPkW34
import Derived.Test.YtoopdhgmdjienaaGreatDoorPkW36
import Derived.Test.YtoopdhgmdjienaaGreatDoorPkW32
import Derived.Test.YtoopdhgmdjienaaGreatDoorPkW37
import Derived.Test.YtoopdhgmdjienaaGreatDoorPkW13
import Derived.Test.YtoopdhgmdjienaaGreatDoorPkW06
import Derived.WalkKit
import Derived.Lib.Hide
import Derived.Deep.DeepCutAuto
import Derived.WalkLawsBesides
import Derived.WalkSpells
import Derived.BigQuiet
import Derived.BigRegion
import Derived.Deep.RegionHeld3
import Derived.Test.YtoopdhgmdjienaaGreatDoorPkW16
namespace Go.Proofs.YtoopdhgmdjienaaGreatDoor
set_option linter.unusedVariables false
set_option maxRecDepth 20000
open Go.ChangeShapes Go.WideShapes Go.ChangeAt Go.RowKit Go.Joins
open Go.ChangeMaps (open_string shut_string)
theorem flat_take {l : List Nat} {ps : List PartN} {j t : Nat} (h : l[j]? = some t) : (l.take (j + 1)).flatMap (attO ps) = (l.take j).flatMap (attO ps) ++ attO ps t := by
 rw [take_next l j t h, List.flatMap_append, List.flatMap_cons, List.flatMap_nil, List.append_nil]
def EncAt (V wr : World) (l : List Nat) (ps : List PartN) (P : Option Addr) (m c j : Nat) : Prop := ((l.take j).flatMap (attO ps)).length = m ∧ m ≤ j ∧ Own V wr [rowT 77 2 (.slice P m c) m (cellsA ((l.take j).flatMap (attO ps)))]
set_option maxHeartbeats 32000000 in
theorem renc9_c (w : World) {M : Array Value} {d : MsgD} (R : RepD w M d) (k x : Nat) (k9 : k < 256) (x9 : x < 4294967296) (hk : d.kind = (k : Int)) (hx : d.xid = (x : Int)) (hb0 : MayM k d.ps → (bytsA (attrsG 1 (csM topD k) d.ps)).length < 1000000)
 (zmay : ∀ W, Wider w W → ∀ b : Bool, (b = true ↔ MayW k d.ps) → Calls Tryz.prog 25 #[.agg M] W fun e w' => e = .returned (.bool b) ∧ Wider W w') {S : ByteArray} {r : Nat} (hr : EncM k x d.ps S r) :
 Calls Tryz.prog 24 #[.agg M] w fun e w' => e = .returned (.tuple #[.string S, .int .i64 (r : Int)]) ∧ Wider w w' := by
 obtain ⟨W, B, hW, hB, G, hA⟩ := one_box w M
 have sM := R.size
 by_cases hm : MayM k d.ps
 · have hmw := (may_iff (ps_length d)).1 hm
   have hb := hb0 hm
   have zm := fun (W : World) (G : Wider w W) => zmay W G true ⟨fun _ => hmw, fun _ => rfl⟩
   have hok := okA_any (csM topD k) d.ps 1 0 (by omega)
   have hfew := attrs_few topD k d.ps
   rw [attrs_types k9 (ps_length d)] at hb hok hfew
   have hbody : (bodyM k x d.ps).length = 5 + (bytsA ((hasL k).flatMap (attO d.ps))).length := by unfold bodyM; rw [List.length_append, headB_length, attrs_types k9 (ps_length d)]
   have hbod : bodyM k x d.ps = headB k x ++ bytsA ((hasL k).flatMap (attO d.ps)) := by unfold bodyM; rw [attrs_types k9 (ps_length d)]
   have c0 := R.c0
   have c1 := R.c1
   rw [hk] at c0
   rw [hx] at c1
   have zr := fun W : World => rhas_c W k k9
   unfold rhasGoal at zr
   have hl4 := hasL_len k9
   have hbt := fun t (h : t ∈ hasL k) => hasL_between k9 h
   have zv := fun (W : World) (G : Wider w W) (t : Nat) (h : t ∈ hasL k) => rvalue_c (R.on G) t (hbt t h).1 (hbt t h).2 (hmw.2.2 (t - 1) (by have := hbt t h; omega))
   obtain ⟨l, hl⟩ : ∃ l, hasL k = l := ⟨_, rfl⟩
   obtain ⟨n, hn⟩ : ∃ n, l.length = n := ⟨_, rfl⟩
   rw [hl] at hl4 zr hbt zv hb hok hfew hbody hbod
   rw [hn] at hl4
   obtain ⟨L, hL⟩ : ∃ L, l.flatMap (attO d.ps) = L := ⟨_, rfl⟩
   rw [hL] at hb hok hfew hbody hbod
   obtain ⟨T0, hT0⟩ : ∃ T0, encA L = T0 := ⟨_, rfl⟩
   obtain ⟨r0, hr0⟩ : ∃ r0, okA 0 L = r0 := ⟨_, rfl⟩
   obtain ⟨m9, hm9⟩ : ∃ m9, L.length = m9 := ⟨_, rfl⟩
   have ze := fun (A : Option Addr) (c : Nat) (w1 : World) (h : AtsAt w1 A L) => renc_c A m9 c L w1 h hm9 (by omega) hb hT0 hr0
   obtain ⟨H5, hH5⟩ : ∃ H5, H5 = mkB (headB k x) := ⟨_, rfl⟩
   have zh := fun W : World => rhead_c W k x k9 x9 hH5
   have h5s : H5.size = 5 := by rw [hH5, mkB_size, headB_length]
   have HF : Hid ((r0 = 0 ∧ T0.size = (bytsA L).length ∧ S = H5 ++ T0 ∧ r = 0 ∧ T0.size ≤ 16379) ∨ (r0 = 0 ∧ 16379 < T0.size ∧ T0.size < 1000000 ∧ S = ⟨#[]⟩ ∧ r = 5) ∨ (r0 ≠ 0 ∧ S = ⟨#[]⟩ ∧ r = 5)) := Lib.hid (by
    rw [hr0] at hok
    rcases hok with rfl | ⟨rfl, hbig⟩
    · have e1 : T0 = mkB (bytsA L) := by rw [← hT0]; unfold encA; rw [if_pos hr0]
      have e2 : T0.size = (bytsA L).length := by rw [e1, mkB_size]
      rcases hr with ⟨_, h1, h2, h3⟩ | ⟨_, h1, h2, h3⟩ | ⟨h1, _⟩
      · exact .inl ⟨rfl, e2, by rw [h2, hbod, hH5, e1, mkB_append], h3, by omega⟩
      · exact .inr (.inl ⟨rfl, by omega, by omega, h2, h3⟩)
      · exact absurd hm h1
    · rcases hr with ⟨_, h1, _⟩ | ⟨_, _, h2, h3⟩ | ⟨h1, _⟩
      · omega
      · exact .inr (.inr ⟨by decide, h2, h3⟩)
      · exact absurd hm h1)
   have HL := Lib.hid hn
   have HM9 := Lib.hid hm9
   have HLL := Lib.hid hL
   have HB := Lib.hid hbt
   have HZ := Lib.hid zv
   have HC := Lib.hid (And.intro c0 c1)
   have n4 : (n : Int) < 4 := by omega
   clear hm hmw hb hok hbody hbod hl hn hL hbt zv R hk hx hT0 hr0 hm9 hH5 hr hb0 zmay c0 c1 hfew
   go_enter Tryz.func24, Tryz.ntmps24
   go_upto_region 1 with (fail)
   try rw [hW]
   try rw [hB]
   clear hW
   go_upto_region 4 with (first | (with_reducible refine wpList_load_row rfl 51 (.tmp 1) rfl B rfl 51 M (0, 0) _ hA Tryz.underlying51 rfl (by rw [sM]; kernel_rfl) ?_) | (go_at_call 25; (with_reducible refine (zm _ G).mono ?_); rintro e w1 ⟨rfl, g⟩; replace hA := wide_blk hA g; replace G := G.trans g; clear g))
   have q0 := blk_cell hA 0 HC.out.1
   go_upto_region 5 with (first
    | (with_reducible refine wpList_field rfl 51 (.tmp 1) 0 rfl B 0 0 rfl (fieldM0 _) ?_)
    | (go_at_call 29; (with_reducible refine (zr _).mono ?_); rintro e w5 ⟨v, rfl, g, ho⟩; replace hA := wide_blk hA g; replace G := G.trans g; clear g))
   obtain ⟨A, cp, rfl, hRow⟩ := own8_row ho
   rw [HL.out] at ho ⊢
   clear ho q0 zr zm
   go_wp2
   go_loopw [4, 6] (fun u i wr => ∃ (j : Nat) (P : Option Addr) (m c : Nat), j ≤ n ∧ i = .int .i64 (j : Int) ∧ u = .slice P m c ∧ Hid (EncAt w5 wr l d.ps P m c j)) (fun _ i _ => n - (intOf i).toNat)
   case atStart => exact ⟨0, none, 0, 0, by omega, by simp, rfl, rfl, Nat.le_refl 0, (Own.nil (Wider.refl _)).nils _ _⟩
   case round =>
    obtain ⟨j, P, m, c, hj, rfl, rfl, HE⟩ := hrel
    obtain ⟨hlen, hmj, HO⟩ := HE.out
    have gl := HO.wider
    by_cases cj : j < n
    · have j0 : (0 : Int) ≤ (j : Int) := by omega
      have j1 : (j : Int) < (n : Int) := by omega
      obtain ⟨t, hy⟩ : ∃ t, l[j]? = some t := ⟨l[j]'(by have := HL.out; omega), List.getElem?_eq_getElem _⟩
      have htm := List.mem_of_getElem? hy
      obtain ⟨a0, rfl, hc⟩ := row8_at (hRow.on gl) hy
      have hAr := wide_blk hA gl
      have Gr := G.trans gl
      obtain ⟨X, hX⟩ : ∃ X, (partC topD (t - 1)).enc (d.part (t - 1)) = X := ⟨_, rfl⟩
      have zval : ∀ y : After wr, Calls Tryz.prog 52 #[.agg M, .int .u8 (t : Int)] y.w fun e w' => e = .returned (.string X) ∧ Wider y.w w' := fun y => by
       have q := HZ.out y.w (Gr.trans y.h) t htm
       unfold ValW at q
       rw [hX] at q
       exact q
      have HS := Lib.hid (flat_take (ps := d.ps) hy)
      have HA9 : Hid (attO d.ps t = if X.size = 0 then [] else [⟨t, X⟩]) := Lib.hid (by unfold attO; rw [show d.ps.getD (t - 1) noP = d.part (t - 1) from rfl, hX])
      have qr : ∀ u, (∃ y : After wr, u = y.w) → u.heap[B]? = some (.cells M 51 (0, 0)) := by rintro _ ⟨y, rfl⟩; exact wide_blk hAr y.h
      have qc : ∀ y : After wr, y.w.cell? (a0.add j) = some (.int .u8 (t : Int)) := fun y => wkeep y.h hc
      have ht9 : t < 256 := by have := HB.out t htm; omega
      clear hy htm hX hAr
      go_upto_region 8 with (fail)
      refine wp_region_after (by kernel_rfl) (by kernel_rfl) (Wider.refl wr) ?_
      go_big_quiet_want; (refine quiet_row 51 (.tmp 1) rfl B rfl _ qr Tryz.underlying51 rfl (by rw [sM]; kernel_rfl) ?_); go_big_quiet_on; simp only [Act.put, List.setIfInBounds_toArray, List.set_cons_succ, List.set_cons_zero]
      repeat (go_big_quiet_step (first | (go_at_call 52; with_reducible exact quiet_after (zval _))))
      refine wpQuiet_nil ?_
      rintro _ ⟨y9, rfl⟩
      have hO2 := HO.quiet y9.h
      have qc2 := qc y9
      clear qr qc zval HO
      by_cases hX0 : X.size = 0
      · obtain rfl := empty_of X hX0
        have e9 := HA9.out
        rw [if_pos hX0] at e9
        go_wp2
        go_roundw
        case rel => exact ⟨j + 1, P, m, c, by omega, by go_num, rfl, by rw [HS.out, e9, List.append_nil]; exact hlen, by omega, by rw [HS.out, e9, List.append_nil]; exact hO2⟩
        case measure => simp [intOf]; omega
      · obtain ⟨f2, f3⟩ := ne_empty X hX0
        have e9 := HA9.out
        rw [if_neg hX0] at e9
        have HO2 := Lib.hid (hO2.quiet ((Wider.refl y9.w).alloc (.cells #[.int .u8 (t : Int), .string X] 77)))
        have LI := Lib.hid (lies2 y9.w (.int .u8 (t : Int)) (.string X) 77 rfl rfl)
        obtain ⟨i0, hi, hz0, hz1, hz2⟩ := info_parts infoRef
        have SN : Hid (cellsA ((l.take j).flatMap (attO d.ps)) ++ [.int .u8 (t : Int), .string X] = cellsA ((l.take (j + 1)).flatMap (attO d.ps))) := by show _ = _; rw [HS.out, e9, cellsA_snoc]
        have S3 : Hid (m + 1 ≤ maxLen) := by show _ ≤ maxLen; unfold maxLen; omega
        have S4 : Hid ((m + 1) * 24 ≤ 140737488355328) := by show _ ≤ _; omega
        have HLN : Hid (((l.take (j + 1)).flatMap (attO d.ps)).length = m + 1) := Lib.hid (by rw [HS.out, e9, List.length_append, hlen]; rfl)
        have HMJ := Lib.hid hmj
        clear hlen hmj e9 hX0 hO2
        go_wp2_with (at_builtin; refine wpList_append_thing rfl (.tmp 30) (.tmp 37) 72 rfl 77 i0 (.agg #[.int .u8 0, .string ⟨#[]⟩]) 2 24 Tryz.underlying72 hi hz0 hz1 hz2 rfl (by decide) (.slice P m c) m (cellsA ((l.take j).flatMap (attO d.ps))) rfl HO2.out (some ⟨y9.w.heap.size, 0, none⟩) 1 1 [.int .u8 (t : Int), .string X] rfl rfl (fun e => by cases e) (fun a e => by cases e; exact LI.out.1) LI.out.2 S3.out S4.out rfl SN.out ?_; intro B3 c3 w6 H7)
        go_roundw
        case rel => exact ⟨j + 1, B3, m + 1, c3, by omega, by go_num, rfl, HLN.out, by have := HMJ.out; omega, H7⟩
        case measure => simp [intOf]; omega
    · obtain rfl : j = n := by omega
      have i1 : ¬ (j : Int) < (j : Int) := by omega
      rw [List.take_of_length_le (by rw [HL.out]; exact Nat.le_refl _), HLL.out] at hlen HO
      obtain ⟨P2, c2, eq, hat, hm2⟩ := atsAt_own HO.head
      injection eq with eq1 eq2 eq3
      subst eq1
      have hAr := wide_blk hA gl
      have Gr := G.trans gl
      obtain rfl : m = m9 := hm2.symm.trans HM9.out
      have zen := ze P c wr hat
      clear eq2 eq3 hat hm2 ze HO
      rcases HF.out with ⟨rfl, hts, hS, rfl, hle⟩ | ⟨rfl, hgt, hlt, hS, rfl⟩ | ⟨hr0, hS, rfl⟩
      · have t1 : ¬ (16384 : Int) < 5 + (T0.size : Int) := by omega
        have t2 : decide ((16384 : Int) < 5 + (T0.size : Int)) = false := decide_eq_false t1
        have HSS := Lib.hid hS
        clear hts hS
        go_wp2_with (first
         | (go_at_call 32; (with_reducible refine zen.mono ?_); rintro e w7 ⟨rfl, g7⟩; have hA7 := wide_blk hAr g7; have p0 := blk_cell hA7 0 HC.out.1; have p1 := blk_cell hA7 1 HC.out.2)
         | (with_reducible refine wpList_field rfl 51 (.tmp 1) 0 rfl B 0 0 rfl (fieldM0 _) ?_)
         | (with_reducible refine wpList_field rfl 51 (.tmp 1) 1 rfl B 0 1 rfl (fieldM1 _) ?_)
         | (go_at_call 33; (with_reducible refine (zh _).mono ?_); rintro e w8 ⟨rfl, g8⟩))
        go_ret2
        exact ⟨by rw [HSS.out]; rfl, (Gr.trans g7).trans g8⟩
      · have t1 : (16384 : Int) < 5 + (T0.size : Int) := by omega
        have t2 : decide ((16384 : Int) < 5 + (T0.size : Int)) = true := decide_eq_true t1
        have HSS := Lib.hid hS
        clear hS
        go_wp2_with (first | (go_at_call 32; (with_reducible refine zen.mono ?_); rintro e w7 ⟨rfl, g7⟩; have hA7 := wide_blk hAr g7; have p0 := blk_cell hA7 0 HC.out.1; have p1 := blk_cell hA7 1 HC.out.2))
        go_ret2
        exact ⟨by rw [HSS.out]; rfl, Gr.trans g7⟩
      · have t1 : ((r0 : Int) != 0) = true := by rw [bne_iff_ne]; omega
        have t2 : ¬ (r0 : Int) = 0 := by omega
        have t3 : ((r0 : Int) == 0) = false := by rw [beq_eq_false_iff_ne]; omega
        have HSS := Lib.hid hS
        clear hS hr0
        go_wp2_with (first | (go_at_call 32; (with_reducible refine zen.mono ?_); rintro e w7 ⟨rfl, g7⟩; have hA7 := wide_blk hAr g7; have p0 := blk_cell hA7 0 HC.out.1; have p1 := blk_cell hA7 1 HC.out.2))
        go_ret2
        exact ⟨by rw [HSS.out]; rfl, Gr.trans g7⟩
 · obtain ⟨rfl, rfl⟩ : S = ⟨#[]⟩ ∧ r = 3 := by
    rcases hr with ⟨h, _⟩ | ⟨h, _⟩ | ⟨_, h1, h2⟩
    · exact absurd h hm
    · exact absurd h hm
    · exact ⟨h1, h2⟩
   have zm := fun (W : World) (G : Wider w W) => zmay W G false ⟨fun h => (by cases h), fun h => absurd ((may_iff (ps_length d)).2 h) hm⟩
   clear hr hm hb0 zmay R hk hx
   go_enter Tryz.func24, Tryz.ntmps24
   go_upto_region 1 with (fail)
   try rw [hW]
   try rw [hB]
   clear hW
   go_wp2_with (first | (with_reducible refine wpList_load_row rfl 51 (.tmp 1) rfl B rfl 51 M (0, 0) _ hA Tryz.underlying51 rfl (by rw [sM]; kernel_rfl) ?_) | (go_at_call 25; (with_reducible refine (zm _ G).mono ?_); rintro e w1 ⟨rfl, g⟩; replace hA := wide_blk hA g; replace G := G.trans g; clear g))
   go_ret2
   exact ⟨rfl, G⟩
theorem attrsG_total {β : Type} : ∀ (cs : List (Cod β)) (vs : List β) (k : Nat) (f : Nat → Nat), (∀ (i : Nat) c v, cs[i]? = some c → vs[i]? = some v → (c.enc v).size = 0 ∨ 3 + (c.enc v).size ≤ f (k + i)) → (bytsA (attrsG k cs vs)).length ≤ ((List.range' k cs.length).map f).sum
 | [], [], k, f, h => Nat.zero_le _
 | [], _ :: _, k, f, h => Nat.zero_le _
 | _ :: _, [], k, f, h => Nat.zero_le _
 | c :: cs, v :: vs, k, f, h => by
   have ih := attrsG_total cs vs (k + 1) f (fun i c v h1 h2 => by
    have q := h (i + 1) c v (by simpa using h1) (by simpa using h2)
    rw [show k + 1 + i = k + (i + 1) by omega]; exact q)
   unfold attrsG
   rw [List.length_cons, List.range'_succ, List.map_cons, List.sum_cons]
   split
   · omega
   · rename_i n0
     rw [bytsA_cons, List.length_append, bytA_length]
     rcases h 0 c v rfl rfl with q | q
     · exact absurd q n0
     · have q2 : 3 + (c.enc v).size ≤ f k := q
       show 3 + (c.enc v).size + _ ≤ _
       omega
def fK (k t : Nat) : Nat := if t ∈ hasL k then 65538 else 0
theorem fK_sum : ((List.range 256).all fun k => decide (((List.range' 1 17).map (fK k)).sum ≤ 196614)) = true := by kernel_rfl
theorem partC_cap7 (most i : Nat) (hi : i ≠ 7) : (partC most i).cap ≤ 65535 := by
 match i, hi with
 | 0, _ | 1, _ | 2, _ | 3, _ | 4, _ | 5, _ | 6, _ => exact (by decide : 8 ≤ 65535)
 | 7, h => exact absurd rfl h
 | 8, _ => exact Nat.le_refl 65535
 | i + 9, _ => exact Nat.le_refl 65535
theorem encM_total {k : Nat} (hk : k < 256) {d : MsgD} (hd : d.data.size ≤ 65535) (hm : MayM k d.ps) : (bytsA (attrsG 1 (csM topD k) d.ps)).length < 1000000 := by
 have ok := ((okG_iff _ _).1 hm.2).2
 have q := attrsG_total (csM topD k) d.ps 1 (fK k) (fun i c v h1 h2 => by
  have hi : i < 17 := by
   have := (List.getElem?_eq_some_iff.1 h1).1
   rw [csM_length] at this; exact this
  have o := ok i c v h1 h2
  rw [csM_at _ _ _ hi] at h1
  injection h1 with h1
  subst h1
  by_cases hh : (i + 1) ∈ hasL k
  · right
    rw [if_pos hh] at o ⊢
    have e : fK k (1 + i) = 65538 := by unfold fK; rw [show 1 + i = i + 1 by omega, if_pos hh]
    rw [e]
    have l : ((partC topD i).enc v).size ≤ 65535 := by
     by_cases c7 : i = 7
     · subst c7
       obtain rfl : PartN.one (.txt d.data) = v := Option.some.inj h2
       exact hd
     · exact Nat.le_trans ((partC topD i).small v o) (partC_cap7 topD i c7)
    omega
  · left
    rw [if_neg hh]; rfl)
 rw [csM_length] at q
 have s := List.all_eq_true.1 fK_sum k (List.mem_range.2 hk)
 have s2 : ((List.range' 1 17).map (fK k)).sum ≤ 196614 := of_decide_eq_true s
 omega
set_option maxHeartbeats 8000000 in
theorem numbers_c (W : World) (A B : Option Addr) (n cap m cap2 : Nat) (l l2 : List (List Value)) (hA : RowAt W A 1 l) (hB : RowAt W B 1 l2) (hn : l.length = n) (hm : l2.length = m) (hn9 : n < 1000000) (hm9 : m < 1000000) (hs : ∀ x ∈ l, (∃ v0 : Int, x = [.int .u64 v0])) (hs2 : ∀ x ∈ l2, (∃ v0 : Int, x = [.int .u64 v0])) {r : Bool} (hr : l = l2 ↔ r = true) :
 Calls Tryz.prog 43 #[.slice A n cap, .slice B m cap2] W fun e w' => e = .returned (.bool r) ∧ Wider W w' := by
 by_cases hl0 : n = m
 · subst hl0
   have d0 : ((n : Int) != (n : Int)) = false := bne_self_eq_false _
   have HN := Lib.hid hn
   have HM := Lib.hid hm
   have HS := Lib.hid hs
   have HS2 := Lib.hid hs2
   have HR := Lib.hid hr
   clear hs hs2 hn hm hr
   go_enter Tryz.func43, Tryz.ntmps43
   go_wp2
   go_loopw [5] (fun i wr => ∃ j : Nat, j ≤ n ∧ i = .int .i64 (j : Int) ∧ l.take j = l2.take j ∧ ∃ q : Nat, wr = World.drewN W q) (fun i _ => n - (intOf i).toNat)
   case atStart => exact ⟨0, by omega, by simp, rfl, 0, rfl⟩
   case round =>
    obtain ⟨j, hj, rfl, hjt, q, rfl⟩ := hrel
    have hA2 := hA
    have hB2 := hB
    have HJ := Lib.hid hjt
    clear hjt
    by_cases c : j < n
    · have j0 : (0 : Int) ≤ (j : Int) := by omega
      have j1 : (j : Int) < (n : Int) := by omega
      obtain ⟨x, hx⟩ : ∃ x, l[j]? = some x := ⟨l[j]'(by have := HN.out; omega), List.getElem?_eq_getElem _⟩
      obtain ⟨y, hy⟩ : ∃ y, l2[j]? = some y := ⟨l2[j]'(by have := HM.out; omega), List.getElem?_eq_getElem _⟩
      cases A with
      | none => exact absurd (hA.none_ rfl) (by intro e; rw [e] at hx; simp at hx)
      | some A0 =>
        cases B with
        | none => exact absurd (hB.none_ rfl) (by intro e; rw [e] at hy; simp at hy)
        | some B0 =>
          obtain ⟨x0, rfl⟩ := HS.out x (List.mem_of_getElem? hx)
          obtain ⟨y0, rfl⟩ := HS2.out y (List.mem_of_getElem? hy)
          have kx := row_cell hA2 hx
          have ky := row_cell hB2 hy
          have cx0 := kx.1 _ rfl
          have cy0 := ky.1 _ rfl
          rw [Nat.mul_one] at cx0 cy0
          have HX := Lib.hid hx
          have HY := Lib.hid hy
          clear kx ky hx hy hA2 hB2
          by_cases z0 : x0 = y0
          · subst z0
            have g0 : (x0 != x0) = false := bne_self_eq_false _
            go_wp2
            go_quiet (fail)
            go_wp2
            go_roundw
            case rel => exact ⟨j + 1, by omega, by go_num, take_one HJ.out HX.out HY.out, _, rfl⟩
            case measure => simp [intOf]; omega
          · have g0 : (x0 != y0) = true := by rw [bne_iff_ne]; exact z0
            obtain rfl : r = false := by
             cases r with
             | false => rfl
             | true =>
               have h := HR.out.2 rfl
               have h1 := HX.out
               rw [h, HY.out] at h1
               simp at h1
               exact absurd h1.symm z0
            clear z0
            go_wp2
            go_quiet (fail)
            go_wp2
            go_ret
            exact ⟨rfl, ((Wider.refl W).drewN q).drewN nq⟩
    · have hl : l = l2 := by
       have h := HJ.out
       rw [List.take_of_length_le (by have := HN.out; omega), List.take_of_length_le (by have := HM.out; omega)] at h
       exact h
      obtain rfl : r = true := HR.out.1 hl
      have i1 : ¬ (j : Int) < (n : Int) := by omega
      clear HR hl
      go_wp2
      go_ret
      exact ⟨rfl, (Wider.refl W).drewN q⟩
 · have d0 : ((n : Int) != (m : Int)) = true := by rw [bne_iff_ne]; omega
   obtain rfl : r = false := by
    cases r with
    | false => rfl
    | true => exact absurd (by rw [← hn, ← hm, hr.2 rfl]) hl0
   clear hr
   go_enter Tryz.func43, Tryz.ntmps43
   go_wp2
   go_ret
   exact ⟨rfl, Wider.refl W⟩
end Go.Proofs.YtoopdhgmdjienaaGreatDoor
namespace Go.Proofs.YtoopdhgmdjienaaGreatDoor
set_option linter.unusedVariables false
open Go.ChangeShapes Go.WideShapes Go.ChangeAt Go.RowKit Go.Joins
open Go.ChangeMaps (open_string shut_string)
set_option maxHeartbeats 8000000 in
theorem rsameNode_c (W : World) (a0 : Int) (a1 : Int) (a2 : Int) (a3 : Int) (a4 : Int) (a5 : Int) (a6 : Int) (a8 : Int) (b0 : Int) (b1 : Int) (b2 : Int) (b3 : Int) (b4 : Int) (b5 : Int) (b6 : Int) (b8 : Int) (A B : Option Addr) (n cap m cap2 : Nat) (l l2 : List (List Value)) (hA : RowAt W A 2 l) (hB : RowAt W B 2 l2) (hn : l.length = n) (hm : l2.length = m) (hn9 : n < 1000000) (hs : ∀ x ∈ l, (∃ v0 v1 : Int, x = [.int .u32 v0, .int .i64 v1])) (hs2 : ∀ x ∈ l2, (∃ v0 v1 : Int, x = [.int .u32 v0, .int .i64 v1])) {r : Bool} (hr : (l = l2 ∧ a0 = b0 ∧ a1 = b1 ∧ a2 = b2 ∧ a3 = b3 ∧ a4 = b4 ∧ a5 = b5 ∧ a6 = b6 ∧ a8 = b8) ↔ r = true) :
 Calls Tryz.prog 44 #[.agg #[.int .i64 a0, .int .i64 a1, .int .i64 a2, .int .i64 a3, .int .i64 a4, .int .i64 a5, .int .i64 a6, .slice A n cap, .int .i64 a8], .agg #[.int .i64 b0, .int .i64 b1, .int .i64 b2, .int .i64 b3, .int .i64 b4, .int .i64 b5, .int .i64 b6, .slice B m cap2, .int .i64 b8]] W fun e w' => e = .returned (.bool r) ∧ Wider W w' := by
 by_cases hl0 : n = m
 · subst hl0
   have HN := Lib.hid hn
   have HM := Lib.hid hm
   have HS := Lib.hid hs
   have HS2 := Lib.hid hs2
   have HR := Lib.hid hr
   clear hs hs2 hn hm hr
   go_enter Tryz.func44, Tryz.ntmps44
   go_wp2
   go_loopw [5] (fun i wr => ∃ j : Nat, j ≤ n ∧ i = .int .i64 (j : Int) ∧ l.take j = l2.take j ∧ ∃ q : Nat, wr = World.drewN ((W.alloc (.cells #[.int .i64 a0, .int .i64 a1, .int .i64 a2, .int .i64 a3, .int .i64 a4, .int .i64 a5, .int .i64 a6, .slice A n cap, .int .i64 a8] 32)).alloc (.cells #[.int .i64 b0, .int .i64 b1, .int .i64 b2, .int .i64 b3, .int .i64 b4, .int .i64 b5, .int .i64 b6, .slice B n cap2, .int .i64 b8] 32)) q) (fun i _ => n - (intOf i).toNat)
   case atStart => exact ⟨0, by omega, by simp, rfl, 0, rfl⟩
   case round =>
    obtain ⟨j, hj, rfl, hjt, q, rfl⟩ := hrel
    have hA2 := hA.on (((Wider.refl W).alloc (.cells #[.int .i64 a0, .int .i64 a1, .int .i64 a2, .int .i64 a3, .int .i64 a4, .int .i64 a5, .int .i64 a6, .slice A n cap, .int .i64 a8] 32)).alloc (.cells #[.int .i64 b0, .int .i64 b1, .int .i64 b2, .int .i64 b3, .int .i64 b4, .int .i64 b5, .int .i64 b6, .slice B n cap2, .int .i64 b8] 32))
    have hB2 := hB.on (((Wider.refl W).alloc (.cells #[.int .i64 a0, .int .i64 a1, .int .i64 a2, .int .i64 a3, .int .i64 a4, .int .i64 a5, .int .i64 a6, .slice A n cap, .int .i64 a8] 32)).alloc (.cells #[.int .i64 b0, .int .i64 b1, .int .i64 b2, .int .i64 b3, .int .i64 b4, .int .i64 b5, .int .i64 b6, .slice B n cap2, .int .i64 b8] 32))
    have HJ := Lib.hid hjt
    clear hjt
    by_cases c : j < n
    · have j0 : (0 : Int) ≤ (j : Int) := by omega
      have j1 : (j : Int) < (n : Int) := by omega
      obtain ⟨x, hx⟩ : ∃ x, l[j]? = some x := ⟨l[j]'(by have := HN.out; omega), List.getElem?_eq_getElem _⟩
      obtain ⟨y, hy⟩ : ∃ y, l2[j]? = some y := ⟨l2[j]'(by have := HM.out; omega), List.getElem?_eq_getElem _⟩
      cases A with
      | none => exact absurd (hA.none_ rfl) (by intro e; rw [e] at hx; simp at hx)
      | some A0 =>
        cases B with
        | none => exact absurd (hB.none_ rfl) (by intro e; rw [e] at hy; simp at hy)
        | some B0 =>
          obtain ⟨x0, x1, rfl⟩ := HS.out x (List.mem_of_getElem? hx)
          obtain ⟨y0, y1, rfl⟩ := HS2.out y (List.mem_of_getElem? hy)
          have kx := row_cell hA2 hx
          have ky := row_cell hB2 hy
          have cx0 := kx.1 _ rfl
          have cx1 := kx.2 0 _ rfl
          have cy0 := ky.1 _ rfl
          have cy1 := ky.2 0 _ rfl
          have HX := Lib.hid hx
          have HY := Lib.hid hy
          clear kx ky hx hy hA2 hB2
          by_cases z0 : x0 = y0
          · subst z0
            by_cases z1 : x1 = y1
            · subst z1
              go_wp2
              go_quiet (fail)
              go_wp2
              go_roundw
              case rel => exact ⟨j + 1, by omega, by go_num, take_one HJ.out HX.out HY.out, _, rfl⟩
              case measure => simp [intOf]; omega
            · have g1 : (x1 == y1) = false := by rw [beq_eq_false_iff_ne]; exact z1
              obtain rfl : r = false := by
               cases r with
               | false => rfl
               | true =>
                 have h := HR.out.2 rfl
                 have h1 := HX.out
                 rw [h.1, HY.out] at h1
                 simp at h1
                 exact absurd h1.symm z1
              clear z1
              go_wp2
              go_quiet (fail)
              go_wp2
              go_ret
              exact ⟨rfl, ((((Wider.refl W).alloc _).alloc _).drewN q).drewN nq⟩
          · have g0 : (x0 == y0) = false := by rw [beq_eq_false_iff_ne]; exact z0
            obtain rfl : r = false := by
             cases r with
             | false => rfl
             | true =>
               have h := HR.out.2 rfl
               have h1 := HX.out
               rw [h.1, HY.out] at h1
               simp at h1
               exact absurd h1.1.symm z0
            clear z0
            go_wp2
            go_quiet (fail)
            go_wp2
            go_ret
            exact ⟨rfl, ((((Wider.refl W).alloc _).alloc _).drewN q).drewN nq⟩
    · have hl : l = l2 := by
       have h := HJ.out
       rw [List.take_of_length_le (by have := HN.out; omega), List.take_of_length_le (by have := HM.out; omega)] at h
       exact h
      have hr := HR.out
      have i1 : ¬ (j : Int) < (n : Int) := by omega
      by_cases e0 : a0 = b0
      · subst e0
        by_cases e1 : a1 = b1
        · subst e1
          by_cases e2 : a2 = b2
          · subst e2
            by_cases e3 : a3 = b3
            · subst e3
              by_cases e4 : a4 = b4
              · subst e4
                by_cases e5 : a5 = b5
                · subst e5
                  by_cases e6 : a6 = b6
                  · subst e6
                    by_cases e8 : a8 = b8
                    · subst e8
                      obtain rfl : r = true := hr.1 ⟨hl, rfl, rfl, rfl, rfl, rfl, rfl, rfl, rfl⟩
                      clear hr
                      clear HR hl
                      go_wp2
                      go_ret
                      exact ⟨rfl, (((Wider.refl W).alloc _).alloc _).drewN q⟩
                    · have f8 : (a8 == b8) = false := by rw [beq_eq_false_iff_ne]; exact e8
                      obtain rfl : r = false := by cases r with | false => rfl | true => (have h := hr.2 rfl; exact absurd (h.2.2.2.2.2.2.2.2) e8)
                      clear hr e8
                      clear HR hl
                      go_wp2
                      go_ret
                      exact ⟨rfl, (((Wider.refl W).alloc _).alloc _).drewN q⟩
                  · have f6 : (a6 == b6) = false := by rw [beq_eq_false_iff_ne]; exact e6
                    obtain rfl : r = false := by cases r with | false => rfl | true => (have h := hr.2 rfl; exact absurd (h.2.2.2.2.2.2.2.1) e6)
                    clear hr e6
                    clear HR hl
                    go_wp2
                    go_ret
                    exact ⟨rfl, (((Wider.refl W).alloc _).alloc _).drewN q⟩
                · have f5 : (a5 == b5) = false := by rw [beq_eq_false_iff_ne]; exact e5
                  obtain rfl : r = false := by cases r with | false => rfl | true => (have h := hr.2 rfl; exact absurd (h.2.2.2.2.2.2.1) e5)
                  clear hr e5
                  clear HR hl
                  go_wp2
                  go_ret
                  exact ⟨rfl, (((Wider.refl W).alloc _).alloc _).drewN q⟩
              · have f4 : (a4 == b4) = false := by rw [beq_eq_false_iff_ne]; exact e4
                obtain rfl : r = false := by cases r with | false => rfl | true => (have h := hr.2 rfl; exact absurd (h.2.2.2.2.2.1) e4)
                clear hr e4
                clear HR hl
                go_wp2
                go_ret
                exact ⟨rfl, (((Wider.refl W).alloc _).alloc _).drewN q⟩
            · have f3 : (a3 == b3) = false := by rw [beq_eq_false_iff_ne]; exact e3
              obtain rfl : r = false := by cases r with | false => rfl | true => (have h := hr.2 rfl; exact absurd (h.2.2.2.2.1) e3)
              clear hr e3
              clear HR hl
              go_wp2
              go_ret
              exact ⟨rfl, (((Wider.refl W).alloc _).alloc _).drewN q⟩
          · have f2 : (a2 == b2) = false := by rw [beq_eq_false_iff_ne]; exact e2
            obtain rfl : r = false := by cases r with | false => rfl | true => (have h := hr.2 rfl; exact absurd (h.2.2.2.1) e2)
            clear hr e2
            clear HR hl
            go_wp2
            go_ret
            exact ⟨rfl, (((Wider.refl W).alloc _).alloc _).drewN q⟩
        · have f1 : (a1 == b1) = false := by rw [beq_eq_false_iff_ne]; exact e1
          obtain rfl : r = false := by cases r with | false => rfl | true => (have h := hr.2 rfl; exact absurd (h.2.2.1) e1)
          clear hr e1
          clear HR hl
          go_wp2
          go_ret
          exact ⟨rfl, (((Wider.refl W).alloc _).alloc _).drewN q⟩
      · have f0 : (a0 == b0) = false := by rw [beq_eq_false_iff_ne]; exact e0
        obtain rfl : r = false := by cases r with | false => rfl | true => (have h := hr.2 rfl; exact absurd (h.2.1) e0)
        clear hr e0
        clear HR hl
        go_wp2
        go_ret
        exact ⟨rfl, (((Wider.refl W).alloc _).alloc _).drewN q⟩
 · have hl : ¬ l = l2 := fun h => hl0 (by rw [← hn, ← hm, h])
   obtain rfl : r = false := by cases r with | false => rfl | true => exact absurd (hr.2 rfl).1 hl
   have k0 : ((n : Int) != (m : Int)) = true := by rw [bne_iff_ne]; omega
   clear hr hl
   go_enter Tryz.func44, Tryz.ntmps44
   go_wp2
   go_ret
   exact ⟨rfl, ((Wider.refl W).alloc _).alloc _⟩
end Go.Proofs.YtoopdhgmdjienaaGreatDoor
namespace Go.Proofs.YtoopdhgmdjienaaGreatDoor
set_option linter.unusedVariables false
set_option maxRecDepth 20000
open Go.ChangeShapes Go.WideShapes Go.ChangeAt Go.RowKit Go.Joins
open Go.ChangeMaps (open_string shut_string)
theorem rowsK_len (ks : List IntKind) (L : List (List Int)) : (rowsK ks L).length = L.length := by simp [rowsK]
theorem zip_inj : ∀ (ks : List IntKind) (x y : List Int), x.length = ks.length → y.length = ks.length → List.zipWith Value.int ks x = List.zipWith Value.int ks y → x = y
 | [], [], [], _, _, _ => rfl
 | k :: ks, a :: x, b :: y, h1, h2, h => by
   simp only [List.zipWith_cons_cons, List.cons.injEq, Value.int.injEq, true_and] at h
   rw [h.1, zip_inj ks x y (by simpa using h1) (by simpa using h2) h.2]
 | [], _ :: _, _, h, _, _ => by simp at h
 | [], [], _ :: _, _, h, _ => by simp at h
 | _ :: _, [], _, h, _, _ => by simp at h
 | _ :: _, _ :: _, [], _, h, _ => by simp at h
theorem rowsK_inj {ks : List IntKind} : ∀ {L M : List (List Int)}, (∀ x ∈ L, x.length = ks.length) → (∀ x ∈ M, x.length = ks.length) → rowsK ks L = rowsK ks M → L = M
 | [], [], _, _, _ => rfl
 | x :: L, y :: M, h1, h2, h => by
   simp only [rowsK, List.map_cons, List.cons.injEq] at h
   rw [zip_inj ks x y (h1 x (.head _)) (h2 y (.head _)) h.1, rowsK_inj (fun z hz => h1 z (.tail _ hz)) (fun z hz => h2 z (.tail _ hz)) h.2]
 | [], _ :: _, _, _, h => by simp [rowsK] at h
 | _ :: _, [], _, _, h => by simp [rowsK] at h
theorem shapeArm {L : List (List Int)} (h : ∀ x ∈ L, wfK ksArm x) : ∀ y ∈ rowsK ksArm L, ∃ v0 v1 : Int, y = [.int .u32 v0, .int .i64 v1] := by
 intro y hy
 obtain ⟨x, hx, rfl⟩ := List.mem_map.1 hy
 have hl := (h x hx).1
 match x, hl with
 | [v0, v1], _ => exact ⟨v0, v1, rfl⟩
theorem shapeInstr {L : List (List Int)} (h : ∀ x ∈ L, wfK ksInstr x) : ∀ y ∈ rowsK ksInstr L, ∃ v0 v1 v2 v3 v4 v5 v6 : Int, y = [.int .u8 v0, .int .i64 v1, .int .u8 v2, .int .u64 v3, .int .u8 v4, .int .u64 v5, .int .i64 v6] := by
 intro y hy
 obtain ⟨x, hx, rfl⟩ := List.mem_map.1 hy
 have hl := (h x hx).1
 match x, hl with
 | [v0, v1, v2, v3, v4, v5, v6], _ => exact ⟨v0, v1, v2, v3, v4, v5, v6, rfl⟩
theorem shapeBucket {L : List (List Int)} (h : ∀ x ∈ L, wfK ksBucket x) : ∀ y ∈ rowsK ksBucket L, ∃ v0 v1 : Int, y = [.int .u64 v0, .int .i64 v1] := by
 intro y hy
 obtain ⟨x, hx, rfl⟩ := List.mem_map.1 hy
 have hl := (h x hx).1
 match x, hl with
 | [v0, v1], _ => exact ⟨v0, v1, rfl⟩
theorem shapeKey {L : List (List Int)} (h : ∀ x ∈ L, wfK ksKey x) : ∀ y ∈ rowsK ksKey L, ∃ v0 : Int, y = [.int .i64 v0] := by
 intro y hy
 obtain ⟨x, hx, rfl⟩ := List.mem_map.1 hy
 have hl := (h x hx).1
 match x, hl with
 | [v0], _ => exact ⟨v0, rfl⟩
theorem shapeArg {L : List (List Int)} (h : ∀ x ∈ L, wfK ksArg x) : ∀ y ∈ rowsK ksArg L, ∃ v0 : Int, y = [.int .u64 v0] := by
 intro y hy
 obtain ⟨x, hx, rfl⟩ := List.mem_map.1 hy
 have hl := (h x hx).1
 match x, hl with
 | [v0], _ => exact ⟨v0, rfl⟩
theorem RepNode.same {w : World} {c d : Array Value} {vs us : List ValN} (h : RepNode w c vs) (h2 : RepNode w d us) {r : Bool} (hr : r = true ↔ vs = us) :
 Calls Tryz.prog 44 #[.agg c, .agg d] w fun e w' => e = .returned (.bool r) ∧ Wider w w' := by
 obtain ⟨a0, a1, a2, a3, a4, a5, a6, a8, A, n, cap, L, rfl, rfl, w0, w1, w2, w3, w4, w5, w6, w8, hA, hn, hn9, hL⟩ := h
 obtain ⟨b0, b1, b2, b3, b4, b5, b6, b8, B, m, cap2, M, rfl, rfl, w0', w1', w2', w3', w4', w5', w6', w8', hA', hn', hn9', hL'⟩ := h2
 refine rsameNode_c w a0 a1 a2 a3 a4 a5 a6 a8 b0 b1 b2 b3 b4 b5 b6 b8 A B n cap m cap2 (rowsK ksArm L) (rowsK ksArm M) hA hA' (by rw [rowsK_len]; exact hn) (by rw [rowsK_len]; exact hn') hn9 (shapeArm hL) (shapeArm hL') ?_
 refine ⟨fun h => hr.2 ?_, fun h => ?_⟩
 · obtain ⟨hl, rfl, rfl, rfl, rfl, rfl, rfl, rfl, rfl⟩ := h
   obtain rfl := rowsK_inj (fun x hx => (hL x hx).1) (fun x hx => (hL' x hx).1) hl
   rfl
 · have q := hr.1 h
   simp only [List.cons.injEq, and_true, ValN.num.injEq, ValN.lst.injEq] at q
   obtain ⟨rfl, rfl, rfl, rfl, rfl, rfl, rfl, rfl, rfl⟩ := q
   exact ⟨rfl, rfl, rfl, rfl, rfl, rfl, rfl, rfl, rfl⟩
end Go.Proofs.YtoopdhgmdjienaaGreatDoor
