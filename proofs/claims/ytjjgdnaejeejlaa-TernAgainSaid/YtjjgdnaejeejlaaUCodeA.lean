/- Package tern: texts under masks, items that match, copies of items: by walks of its code. -/
import Derived.Test.YtjjgdnaejeejlaaUMem
import Derived.Test.YtjjgdnaejeejlaaUTail
import Derived.Test.YtjjgdnaejeejlaaShelf
import Derived.Deep.QuietTactic
import Derived.StillTailTactics
namespace Go.Proofs.Ytjjgdnaejeejlaa
set_option linter.unusedVariables false
open Go.ChangeShapes Go.WideShapes Go.ChangeAt Go.RowKit Go.Joins

/-! ### Texts under masks -/
theorem and_u8 (a b : UInt8) : bits .and .u8 (a.toNat : Int) (b.toNat : Int) = ((a &&& b).toNat : Int) := by
  have ha := UInt8.toNat_lt a
  have hb := UInt8.toNat_lt b
  have hx : a.toNat &&& b.toNat < 2 ^ 8 := Nat.and_lt_two_pow _ (by omega)
  have h1 : (BitVec.ofInt 8 (a.toNat : Int)).toNat = a.toNat := by
    rw [BitVec.ofInt_natCast, BitVec.toNat_ofNat]; exact Nat.mod_eq_of_lt (by omega)
  have h2 : (BitVec.ofInt 8 (b.toNat : Int)).toNat = b.toNat := by
    rw [BitVec.ofInt_natCast, BitVec.toNat_ofNat]; exact Nat.mod_eq_of_lt (by omega)
  show IntKind.u8.wrap ((BitVec.ofInt 8 (a.toNat : Int) &&& BitVec.ofInt 8 (b.toNat : Int)).toNat : Int) = _
  rw [BitVec.toNat_and, h1, h2, UInt8.toNat_and]
  simp [IntKind.wrap, IntKind.bits, IntKind.signed]
  omega
def andU (s m : ByteArray) (j : Nat) : UInt8 := s.data.toList.getD j 0 &&& m.data.toList.getD j 0
theorem andU_at (s m : ByteArray) (j : Nat) (h1 : j < s.size) (h2 : j < m.size) : bits .and .u8 (s[j].toNat : Int) (m[j].toNat : Int) = ((andU s m j).toNat : Int) := by
  rw [and_u8]
  unfold andU
  rw [List.getD_eq_getElem?_getD, List.getD_eq_getElem?_getD, List.getElem?_eq_getElem (by simpa using h1), List.getElem?_eq_getElem (by simpa using h2)]
  rfl
def underB (s m : ByteArray) : ByteArray := mkB ((List.range s.size).map (andU s m))
theorem underB_size (s m : ByteArray) : (underB s m).size = s.size := by
  have e : (underB s m).size = (underB s m).data.toList.length := by simp
  rw [e, underB, mkB_data]; simp
theorem nums_under (s m : ByteArray) (n : Nat) (hn : s.size = n) : strOfNums ((List.range n).map fun q => if q < n then ((andU s m q).toNat : Int) else 0) = underB s m := by
  subst hn
  rw [underB, ← nums_mkB, List.map_map]
  congr 1
  refine List.map_congr_left fun q hq => ?_
  rw [if_pos (List.mem_range.1 hq)]; rfl
set_option maxRecDepth 20000 in
set_option maxHeartbeats 2000000 in
theorem uunder_c (s m : ByteArray) (hs : s.size < 1000000) {k : ByteArray} {is : Bool} (hr : (s.size = m.size ∧ k = underB s m ∧ is = true) ∨ (s.size ≠ m.size ∧ k = ⟨#[]⟩ ∧ is = false)) (w : World) :
    Calls Try.prog 26 #[.string s, .string m] w fun e w' => e = .returned (.tuple #[.string k, .bool is]) ∧ Wider w w' := by
  rcases hr with ⟨e, rfl, rfl⟩ | ⟨e, rfl, rfl⟩
  · obtain ⟨n, hn⟩ : ∃ n, s.size = n := ⟨_, rfl⟩
    have hmn : m.size = n := by omega
    have e0 : ((n : Int) != (n : Int)) = false := by simp
    have mk := makeN n (by omega)
    have HN := Lib.hid hn
    have hM := Lib.hid hmn
    have HS := Lib.hid hs
    clear e hs
    go_enter Try.func26, Try.ntmps26
    go_wp2
    go_loopw [18] (fun i wr => ∃ j : Nat, j ≤ n ∧ i = .int .i64 (j : Int) ∧ Bts wr w.heap.size n (fun q => if q < j then ((andU s m q).toNat : Int) else 0) ∧ Wider w wr) (fun i _ => n - (intOf i).toNat)
    case atStart => exact ⟨0, by omega, by simp, (Bts.made w n).congr (fun j hj => by simp), (Wider.refl w).alloc _⟩
    case round =>
      clear hn hmn mk e0
      obtain ⟨j, hj, rfl, hB, g⟩ := hrel
      by_cases c : j < n
      · have j0 : (0 : Int) ≤ (j : Int) := by omega
        have j1 : (j : Int) < (n : Int) := by omega
        have i1 : (j : Int) < (s.size : Int) := by rw [HN.out]; omega
        have i2 : (j : Int) < (m.size : Int) := by rw [hM.out]; omega
        obtain ⟨v0, hv0⟩ : ∃ v, wr.cell? ⟨w.heap.size, j, none⟩ = some v := ⟨_, hB.cell j c⟩
        have f0 := hB.free j c
        have jb : j < 1000000 := by have := HS.out; rw [HN.out] at this; omega
        have HB := Lib.hid hB
        have HA := Lib.hid (andU_at s m j (by omega) (by omega))
        clear hB
        go_upto_region 7 with (fail)
        go_still_tail 10, (by kernel_rfl)
        change wpList _ _ _ _ _ wr.drew
        go_wp2
        go_roundw
        case rel =>
          refine ⟨j + 1, by omega, by go_num, ?_, (g.setCell (Nat.le_refl _) _).drew⟩
          rw [HA.out]
          refine (HB.out.put c fun q hq => ?_).on (Wider.refl _).drew
          by_cases e : q = j
          · subst e; rw [if_pos (by omega), if_pos rfl]
          · rw [if_neg e]
            by_cases d : q < j
            · rw [if_pos d, if_pos (by omega)]
            · rw [if_neg d, if_neg (by omega)]
        case measure => simp [intOf]; omega
      · obtain rfl : j = n := by omega
        have cv := hB.conv j (nums_under s m j HN.out)
        have j1 : ¬ (j : Int) < (j : Int) := by omega
        clear hB
        go_wp2
        go_ret2
        exact ⟨rfl, g⟩
  · have e0 : ((s.size : Int) != (m.size : Int)) = true := by simp; omega
    have e1 : ((s.size : Int) == (m.size : Int)) = false := by rw [beq_eq_false_iff_ne]; omega
    have e2 : ¬ (s.size : Int) = (m.size : Int) := by omega
    clear e hs
    go_enter Try.func26, Try.ntmps26
    go_wp2
    go_ret2
    exact ⟨rfl, Wider.refl w⟩
theorem textU_ne {s t : ByteArray} (h : s ≠ t) : (s.toList == t.toList) = false ∧ ¬ s.toList = t.toList := by
  have e : ¬ s.toList = t.toList := fun e => h (ba_ext (by rw [← ByteArray.toList_eq, ← ByteArray.toList_eq]; exact e))
  exact ⟨by simpa using e, e⟩

theorem new1c (w : World) (key mask : ByteArray) (prio v : Int) : (w.alloc (.cells #[.string key, .string mask, .int .i64 prio, .int .i64 v] 26)).cell? ⟨w.heap.size, 0, none⟩ = some (.string key) := by rw [World.cell?_alloc_new]; simp

/-! ### Items that match -/
abbrev aggI (x : ItN) : Value := .agg #[.string x.key, .string x.mask, .int .i64 x.prio, .int .i64 x.v]
def MatchN (x : ItN) (k : ByteArray) : Prop := k.size = x.mask.size ∧ underB k x.mask = x.key
theorem umatch_c (x : ItN) (k : ByteArray) (hk : k.size < 1000000) {b : Bool} (hb : b = true ↔ MatchN x k) (w : World) :
    Calls Try.prog 10 #[aggI x, .string k] w fun e w' => e = .returned (.bool b) ∧ Wider w w' := by
  obtain ⟨key, mask, prio, v⟩ := x
  show Calls Try.prog 10 #[.agg #[.string key, .string mask, .int .i64 prio, .int .i64 v], .string k] w fun e w' => e = .returned (.bool b) ∧ Wider w w'
  have H := (Wider.refl w).alloc (.cells #[.string key, .string mask, .int .i64 prio, .int .i64 v] 26)
  by_cases e : k.size = mask.size
  · have zu := uunder_c k mask hk (.inl ⟨e, rfl, rfl⟩)
    obtain ⟨u, hu⟩ : ∃ u, underB k mask = u := ⟨_, rfl⟩
    rw [hu] at zu
    have d0 := new1c w key mask prio v
    by_cases c : u = key
    · subst c
      obtain rfl : b = true := hb.2 ⟨e, hu⟩
      clear hb hk
      go_enter Try.func10, Try.ntmps10
      go_wp2_with (first
        | (go_at_call 26; ((with_reducible refine (zu _).mono ?_); rintro e w1 ⟨rfl, g⟩; have d1 := wkeep g d0; replace H := H.trans g; clear g)))
      go_ret
      exact ⟨rfl, H⟩
    · obtain ⟨t0, t1⟩ := textU_ne c
      obtain rfl : b = false := by
        cases b with
        | false => rfl
        | true => exact absurd (hu.symm.trans (hb.1 rfl).2) c
      clear hb hk
      go_enter Try.func10, Try.ntmps10
      go_wp2_with (first
        | (go_at_call 26; ((with_reducible refine (zu _).mono ?_); rintro e w1 ⟨rfl, g⟩; have d1 := wkeep g d0; replace H := H.trans g; clear g)))
      go_ret
      exact ⟨rfl, H⟩
  · have zu := uunder_c k mask hk (.inr ⟨e, rfl, rfl⟩)
    obtain rfl : b = false := by
      cases b with
      | false => rfl
      | true => exact absurd (hb.1 rfl).1 e
    clear hb hk
    go_enter Try.func10, Try.ntmps10
    go_wp2_with (first
      | (go_at_call 26; ((with_reducible refine (zu _).mono ?_); rintro e w1 ⟨rfl, g⟩; replace H := H.trans g; clear g)))
    go_ret
    exact ⟨rfl, H⟩

/-! ### An item of one's own -/
theorem wider_below {W w : World} (h : Below W.heap.size W w) : Wider W w := wider_of h.os h.output h.size h.block
theorem uclone_c (s : ByteArray) (hs : s.size < 1000000) (w : World) : Calls Try.prog 39 #[.string s] w fun e w' => e = .returned (.string s) ∧ Wider w w' := by
  have zc := Try.stringslite_Clone s w (by omega)
  go_enter Try.func39, Try.ntmps39
  go_wp2_with (first
    | (go_at_call 58; ((with_reducible refine zc.mono ?_); rintro e w3 ⟨rfl, H⟩)))
  go_ret
  exact ⟨rfl, wider_below H⟩
set_option maxHeartbeats 2000000 in
theorem uown_c (x : ItN) (hk : x.key.size < 1000000) (hm : x.mask.size < 1000000) (w : World) : Calls Try.prog 30 #[aggI x] w fun e w' => e = .returned (aggI x) ∧ Wider w w' := by
  obtain ⟨key, mask, prio, v⟩ := x
  show Calls Try.prog 30 #[.agg #[.string key, .string mask, .int .i64 prio, .int .i64 v]] w fun e w' => e = .returned (.agg #[.string key, .string mask, .int .i64 prio, .int .i64 v]) ∧ Wider w w'
  have zk := uclone_c key hk
  have zm := uclone_c mask hm
  clear hk hm
  have H : Own w w [] := Own.nil (Wider.refl w)
  have H1 := (H.blk #[.string key, .string mask, .int .i64 prio, .int .i64 v] 26).blk #[.string ⟨#[]⟩, .string ⟨#[]⟩, .int .i64 0, .int .i64 0] 26
  go_enter Try.func30, Try.ntmps30
  go_upto_region 1 with (fail)
  obtain ⟨W, hW⟩ : ∃ W, ((w.alloc (.cells #[.string key, .string mask, .int .i64 prio, .int .i64 v] 26)).alloc (.cells #[.string ⟨#[]⟩, .string ⟨#[]⟩, .int .i64 0, .int .i64 0] 26)) = W := ⟨_, rfl⟩
  have hz : (w.alloc (.cells #[.string key, .string mask, .int .i64 prio, .int .i64 v] 26)).heap.size = w.heap.size + 1 := by simp
  rw [hW, hz] at H1
  obtain ⟨B, hB⟩ : ∃ B, w.heap.size = B := ⟨_, rfl⟩
  rw [hB] at H1
  try rw [hW]
  try rw [hB]
  have H1 := H1.swap
  have c0 := blk_cell H1.head 0 (v := .string key) rfl
  have c1 := blk_cell H1.head 1 (v := .string mask) rfl
  have f0 := blk_free H1.head 0
  have f1 := blk_free H1.head 1
  clear hW hz H hB
  go_region_law (first
    | (go_simp; go_at_call 39; ((with_reducible refine (zk _).mono ?_); rintro e w5 ⟨rfl, g⟩; replace H1 := H1.quiet g; replace c0 := wkeep g c0; replace c1 := wkeep g c1; clear g f0 f1; have f0 := blk_free H1.head 0; have f1 := blk_free H1.head 1))
    | (go_simp; go_at_call 39; ((with_reducible refine (zm _).mono ?_); rintro e w6 ⟨rfl, g⟩; replace H1 := H1.quiet g; replace c0 := wkeep g c0; replace c1 := wkeep g c1; clear g f0 f1; have f0 := blk_free H1.head 0; have f1 := blk_free H1.head 1)))
  all_goals
    have H3 := (H1.store 0 (.string key)).store 1 (.string mask)
    obtain ⟨W2, hW2⟩ : ∃ W2, ((w6.setCell ⟨B, 0, none⟩ (.string key)).setCell ⟨B, 1, none⟩ (.string mask)) = W2 := ⟨_, rfl⟩
    rw [hW2] at H3
    try rw [hW2]
    have H4 := ((((H3.swap.store 0 (.string key)).store 1 (.string mask)).store 2 (.int .i64 prio)).store 3 (.int .i64 v)).wider
    have d0 := blk_cell H3.head 0 (v := .string key) rfl
    have d1 := blk_cell H3.head 1 (v := .string mask) rfl
    have d2 := blk_cell H3.head 2 (v := .int .i64 prio) rfl
    have d3 := blk_cell H3.head 3 (v := .int .i64 v) rfl
    have e0 := blk_cell H3.second 0 (v := .string ⟨#[]⟩) rfl
    have e1 := blk_cell H3.second 1 (v := .string ⟨#[]⟩) rfl
    have e2 := blk_cell H3.second 2 (v := .int .i64 0) rfl
    have e3 := blk_cell H3.second 3 (v := .int .i64 0) rfl
    have k0 := blk_free H3.second 0
    have k1 := blk_free H3.second 1
    have k2 := blk_free H3.second 2
    have k3 := blk_free H3.second 3
    have H5 := Lib.hid H4
    clear H1 H3 H4 c0 c1 f0 f1 hW2 zk zm
    go_wp2
    simp [bodyPost, results, Try.results30, go_sem, e0, e1, e2, e3]
    exact H5.out

end Go.Proofs.Ytjjgdnaejeejlaa
