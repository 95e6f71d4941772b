/- Package trie: Put, Del: by walks of its code. -/
import Derived.Test.YtjnccpbedffijaaJCodeB
namespace Go.Proofs.Ytjnccpbedffijaa
set_option linter.unusedVariables false
open Go.ChangeShapes Go.WideShapes Go.ChangeAt Go.RowKit Go.Joins

/-! ### A node's number set anew, and the count -/
def rootB : TB → Option (Nat × Option Int)
  | .nil => none
  | .node B c _ _ _ => some (B, c)
theorem rootB_plug : ∀ (C : List Fr) {s u : TB}, rootB s = rootB u → rootB (plugJ C s) = rootB (plugJ C u)
  | [], s, u, h => h
  | f :: C, s, u, h => rootB_plug C (by unfold Fr.fill; cases f.d <;> rfl)
theorem rootB_node {T : TB} {B : Nat} {c : Option Int} (h : rootB T = some (B, c)) : ∃ v l r, T = .node B c v l r := by
  cases T with
  | nil => cases h
  | node B2 c2 v l r =>
    simp only [rootB, Option.some.injEq, Prod.mk.injEq] at h
    obtain ⟨rfl, rfl⟩ := h
    exact ⟨v, l, r, rfl⟩
theorem cellsJ_set (c v y : Option Int) (p q : Value) : ((cellsJ c v p q).setIfInBounds 2 (.int .i64 (y.getD 0))).setIfInBounds 3 (.bool y.isSome) = cellsJ c y p q := by cases c <;> rfl
theorem Own.setAt {V w : World} {R : List Thing} {T : TB} {p : List Bool} {N : Nat} {c2 v2 : Option Int} {l2 r2 : TB} (H : Own V w (treeT T :: R)) (hs : T.sub p = .node N c2 v2 l2 r2) (y : Option Int) :
    ∃ T', Own V ((w.setCell ⟨N, 2, none⟩ (.int .i64 (y.getD 0))).setCell ⟨N, 3, none⟩ (.bool y.isSome)) (treeT T' :: R) ∧ rootB T' = rootB T ∧ T'.sub p = .node N c2 y l2 r2 ∧ ∃ C, pathJ C = p ∧ T.tr = trPlug C (.node v2 l2.tr r2.tr) ∧ T'.tr = trPlug C (.node y l2.tr r2.tr) := by
  obtain ⟨C, hC, e⟩ := plug_ex T p (by rw [hs]; simp)
  rw [hs] at e
  rw [← e] at H
  have H1 := (H.unplug).treeOpen
  have H2 := (H1.store 2 (.int .i64 (y.getD 0))).store 3 (.bool y.isSome)
  rw [cellsJ_set] at H2
  have H3 := (H2.treeShut (l := l2) (r := r2) rfl rfl)
  refine ⟨plugJ C (.node N c2 y l2 r2), Own.plugged (C := C) (t := .node N c2 y l2 r2) H3, ?_, ?_, C, hC, ?_, tr_plug C _⟩
  · rw [← e]; exact rootB_plug C rfl
  · have q := sub_plug C (.node N c2 y l2 r2) []
    rw [List.append_nil, hC, TB.sub_nil] at q
    exact q
  · rw [← e]; exact tr_plug C _
theorem Own.setCnt {V w : World} {R : List Thing} {A : Nat} {n m : Int} {v : Option Int} {l r : TB} (H : Own V w (treeT (.node A (some n) v l r) :: R)) : Own V (w.setCell ⟨A, 4, none⟩ (.int .i64 m)) (treeT (.node A (some m) v l r) :: R) := by
  have H1 := H.treeOpen.store 4 (.int .i64 m)
  rw [cellsJ_set4] at H1
  exact H1.treeShut (c := some m) rfl rfl
theorem sub_cnt {A : Nat} {c c' v : Option Int} {l r : TB} {p : List Bool} {N : Nat} {c2 v2 : Option Int} {l2 r2 : TB} (h : (TB.node A c v l r).sub p = .node N c2 v2 l2 r2) : ∃ c3, (TB.node A c' v l r).sub p = .node N c3 v2 l2 r2 := by
  cases p with
  | nil =>
    have h : TB.node A c v l r = .node N c2 v2 l2 r2 := h
    injection h with h1 h2 h3 h4 h5
    subst h1 h3 h4 h5
    exact ⟨c', rfl⟩
  | cons b p => exact ⟨c2, by rw [← h]; rfl⟩
theorem put_done {A : Nat} {t : Tr} {T T' : TB} {bs : List Bool} {x : Int} (ht : IsTrie A t T) (hb : bs.length ≤ 256) (hr : rootB T' = some (A, some ((t.put bs x).count : Int))) (he : T'.tr = T.tr.put bs x) : IsTrie A (t.put bs x) T' := by
  obtain ⟨v, l, r, e⟩ := rootB_node hr
  refine ⟨⟨v, l, r, e⟩, fun cs => ?_, ?_⟩
  · rw [he, Tr.get_put, Tr.get_put, ht.get]
  · rw [he]; exact Tr.lim_put _ _ _ _ ht.lim (by omega)
set_option maxHeartbeats 2000000 in
theorem jput_c {key : ByteArray} {bs : List Bool} (hb : IsKey key bs) {n : Int} (hn : n = (bs.length : Int)) (x : Int) {A : Nat} {t : Tr} {T : TB} (ht : IsTrie A t T) (hcn : t.count < 1000000) {V w : World} {R : List Thing} (H : Own V w (treeT T :: R)) :
    Calls Try.prog 9 #[.pointer (some ⟨A, 0, none⟩), .string key, .int .i64 n, .int .i64 x] w fun e w' => e = .returned (.int .i64 0) ∧ ∃ T', IsTrie A (t.put bs x) T' ∧ Own V w' (treeT T' :: R) := by
  obtain ⟨m, hm⟩ : ∃ m, bs.length = m := ⟨_, rfl⟩
  rw [hm] at hn
  subst hn
  have hk : key.size < 1000000 := by have := hb.size_le; omega
  have m2 : m ≤ 256 := by have := hb.few; omega
  have ml : m ≤ 8 * key.size := by have := hb.long; omega
  have zc := fun w => jcheck_c key (m : Int) hk (by omega) (by omega) (r := 0) (by rw [← hm]; exact checkN_ok hb) w
  obtain ⟨c, hc⟩ : ∃ c, t.count = c := ⟨_, rfl⟩
  have hroot : ∃ v l r, T = .node A (some (c : Int)) v l r := hc ▸ ht.root
  rw [hc] at hcn
  have HM := Lib.hid hm
  have HB := Lib.hid hb
  have HT := Lib.hid ht
  have HC := Lib.hid hc
  have HRT := Lib.hid hroot
  clear hm hb ht hc hroot
  go_enter Try.func9, Try.ntmps9
  go_wp2_with (first
    | (go_at_call 24; ((with_reducible refine (zc _).mono ?_); rintro e w3 ⟨rfl, g⟩; replace H := H.quiet g; clear g)))
  clear zc
  go_loopw [10, 24] (fun y i wr => ∃ (k : Nat) (C : List Fr) (N : Nat) (c2 v2 : Option Int) (l2 r2 : TB), k ≤ m ∧ i = .int .i64 (k : Int) ∧ y = .pointer (some ⟨N, 0, none⟩) ∧ Hid (pathJ C = bs.take k) ∧ Hid (∀ z, trPlug C ((Tr.node v2 l2.tr r2.tr).put (bs.drop k) z) = T.tr.put bs z) ∧ Hid ((Tr.node v2 l2.tr r2.tr).get (bs.drop k) = T.tr.get bs) ∧ Hid (rootB (plugJ C (.node N c2 v2 l2 r2)) = some (A, some (c : Int))) ∧ Own V wr (treeT (.node N c2 v2 l2 r2) :: (ctxL C (.pointer (some ⟨N, 0, none⟩)) ++ R))) (fun _ i _ => m - (intOf i).toNat)
  case atStart =>
    obtain ⟨v, l, r, e⟩ := HRT.out
    subst e
    exact ⟨0, [], A, some (c : Int), v, l, r, by omega, rfl, rfl, Lib.hid (by rw [List.take_zero]; rfl), Lib.hid (fun z => by rw [List.drop_zero]; rfl), Lib.hid (by rw [List.drop_zero]; rfl), Lib.hid rfl, H⟩
  case round =>
    clear H
    obtain ⟨k, C, N, c2, v2, l2, r2, k0, rfl, rfl, HP, HZ, HG, HR, H⟩ := hrel
    by_cases q : k < m
    · have q1 : (k : Int) < (m : Int) := by omega
      have hd := HB.out.at_ k (by rw [HM.out]; exact q)
      obtain ⟨d, hdd⟩ : ∃ d, decide (bitS key k = 1) = d := ⟨_, rfl⟩
      have hbit : bitS key k = d.toNat := by rw [← hdd]; exact (bit_toNat key k).symm
      rw [hdd] at hd
      obtain ⟨hk2, hd2⟩ := List.getElem?_eq_some_iff.1 hd
      have HD := Lib.hid (List.drop_eq_getElem_cons hk2)
      have HD2 := Lib.hid hd2
      have HTK := Lib.hid (show bs.take (k + 1) = bs.take k ++ [d] by rw [List.take_add_one, hd]; rfl)
      have zr := jreach_c key k hk (by omega) (by omega) hbit H
      clear hd hdd hbit hd2 H
      go_wp2_with (first
        | (go_at_call 25; ((with_reducible refine zr.mono ?_); rintro e w3 ⟨N2, c3, v3, l3, r3, s3, rfl, H, he, hch⟩; have HE := Lib.hid he; have HCH := Lib.hid hch; clear he hch)))
      go_roundw
      case rel =>
        refine ⟨k + 1, _, N2, c3, v3, l3, r3, by omega, by go_num, rfl, Lib.hid ?_, Lib.hid fun z => ?_, Lib.hid ?_, Lib.hid ?_, H⟩
        · show pathJ C ++ [d] = _
          rw [HP.out, HTK.out]
        · rw [← HZ.out z, HD.out, HD2.out]
          show trPlug C (if d then _ else _) = trPlug C ((Tr.node v2 l2.tr r2.tr).put (d :: bs.drop (k + 1)) z)
          congr 1
          have hput : (Tr.node v3 l3.tr r3.tr).put (bs.drop (k + 1)) z = (childJ d l2 r2).tr.put (bs.drop (k + 1)) z := by
            rcases HCH.out with e | ⟨e1, e2⟩
            · rw [e]
            · rw [e1, e2]; exact put_fresh _ _
          rw [hput, HE.out]
          cases d <;> rfl
        · rw [← HG.out, HD.out, HD2.out]
          have hget : (Tr.node v3 l3.tr r3.tr).get (bs.drop (k + 1)) = (childJ d l2 r2).tr.get (bs.drop (k + 1)) := by
            rcases HCH.out with e | ⟨e1, e2⟩
            · rw [e]
            · rw [e1, e2, Tr.get_nil]
              cases bs.drop (k + 1) with
              | nil => rfl
              | cons b l => cases b <;> exact Tr.get_nil l
          rw [hget]
          cases d <;> rfl
        · rw [← HR.out]
          show rootB (plugJ C (Fr.fill _ _)) = _
          refine rootB_plug C ?_
          unfold Fr.fill
          cases d <;> rfl
      case measure => simp [intOf]; omega
    · have q1 : ¬ (k : Int) < (m : Int) := by omega
      obtain rfl : k = m := by omega
      have HTK : Hid (bs.take k = bs) := Lib.hid (List.take_of_length_le (by rw [HM.out]; omega))
      have HDR : Hid (bs.drop k = []) := Lib.hid (List.drop_of_length_le (by rw [HM.out]; omega))
      have HSB : Hid ((plugJ C (.node N c2 v2 l2 r2)).sub bs = .node N c2 v2 l2 r2) := Lib.hid (by
        have := sub_plug C (.node N c2 v2 l2 r2) []
        rw [List.append_nil, HP.out, HTK.out, TB.sub_nil] at this
        exact this)
      have HPT : Hid (∀ z, trPlug C (.node (some z) l2.tr r2.tr) = T.tr.put bs z) := Lib.hid fun z => by
        rw [← HZ.out z, HDR.out]; rfl
      have HTR : Hid ((plugJ C (.node N c2 v2 l2 r2)).tr = trPlug C (.node v2 l2.tr r2.tr)) := Lib.hid (tr_plug C _)
      have HGT : Hid (v2 = T.tr.get bs) := Lib.hid (by rw [← HG.out, HDR.out]; rfl)
      have HPP : Hid (pathJ C = bs) := Lib.hid (HP.out.trans HTK.out)
      have c3 := blk_cell H.head.1.1 3 (cellsJ_3 c2 v2 l2.ptr r2.ptr)
      have H1 := Own.plugged (C := C) (t := .node N c2 v2 l2 r2) H
      obtain ⟨T1, hT1⟩ : ∃ T1, plugJ C (.node N c2 v2 l2 r2) = T1 := ⟨_, rfl⟩
      rw [hT1] at HSB HTR HR H1
      have fin : ∀ (T2 : TB) (D : List Fr), rootB T2 = some (A, some ((t.put bs x).count : Int)) → pathJ D = bs → trPlug D (.node v2 l2.tr r2.tr) = T1.tr → T2.tr = trPlug D (.node (some x) l2.tr r2.tr) → IsTrie A (t.put bs x) T2 := fun T2 D h1 h2 h3 h4 => by
        refine put_done HT.out HB.out.few h1 ?_
        have e1 := put_plug D (.node v2 l2.tr r2.tr) [] x
        have e2 := put_plug C (.node v2 l2.tr r2.tr) [] x
        rw [List.append_nil] at e1 e2
        rw [h2, h3] at e1
        rw [HPP.out, ← HTR.out] at e2
        rw [h4, ← HPT.out x]
        exact e1.symm.trans e2
      have FIN := Lib.hid fin
      clear fin hT1 H HP HZ HG HTK HDR HPT HTR
      cases v2 with
      | some y =>
        simp only [Option.isSome_some] at c3
        have hcnt : (t.put bs x).count = t.count := by
          rw [Tr.count_put, ← HT.out.get bs, ← HGT.out]; rfl
        have HCNT := Lib.hid hcnt
        obtain ⟨T2, H2, h1, _, D, h2, h3, h4⟩ := H1.setAt HSB.out (some x)
        have f2 := blk_free (H1.head.1.sub bs |> fun h => (by rw [HSB.out] at h; exact h.1)) 2
        have a2 := (H1.head.1.sub bs |> fun h => (by rw [HSB.out] at h; exact h.1 : wr.heap[N]? = some (.cells (cellsJ c2 (some y) l2.ptr r2.ptr) (tyJ c2) (0, 0))))
        have b2 := blk_cell a2 2 (cellsJ_2 c2 (some y) l2.ptr r2.ptr)
        have f3 := blk_free a2 3
        have HF := Lib.hid (FIN.out T2 D (by rw [h1, HR.out, HCNT.out, HC.out]) h2 h3.symm h4)
        simp only [Option.isSome_some, Option.getD_some] at H2
        clear a2 h1 h2 h3 h4 hcnt
        go_wp2
        go_ret
        exact ⟨rfl, T2, HF.out, H2⟩
      | none =>
        simp only [Option.isSome_none] at c3
        have hcnt : (t.put bs x).count = t.count + 1 := by
          rw [Tr.count_put, ← HT.out.get bs, ← HGT.out]; rfl
        have HCNT := Lib.hid hcnt
        obtain ⟨v1, l1, r1, e1⟩ := rootB_node HR.out
        subst e1
        have aA := H1.head.1.1
        have cA := blk_cell aA 4 (cellsJ_4 (c : Int) v1 l1.ptr r1.ptr)
        have fA := blk_free aA 4
        have i1 : IntKind.i64.wrap ((c : Int) + 1) = (c : Int) + 1 := by simp [IntKind.wrap, IntKind.bits, IntKind.signed]; omega
        have H2 := H1.setCnt (m := (c : Int) + 1)
        obtain ⟨c4, hs4⟩ := sub_cnt (c' := some ((c : Int) + 1)) HSB.out
        have a2 := H2.head.1.sub bs
        rw [hs4] at a2
        have b2 := blk_cell a2.1 2 (cellsJ_2 c4 none l2.ptr r2.ptr)
        have b3 := blk_cell a2.1 3 (cellsJ_3 c4 none l2.ptr r2.ptr)
        have f2 := blk_free a2.1 2
        have f3 := blk_free a2.1 3
        obtain ⟨T2, H3, h1, _, D, h2, h3, h4⟩ := H2.setAt hs4 (some x)
        have HF := Lib.hid (FIN.out T2 D (by rw [h1, HCNT.out, HC.out]; rfl) h2 (by rw [← h3]; rfl) h4)
        simp only [Option.isSome_some, Option.getD_some] at H3
        clear a2 h1 h2 h3 h4 hcnt aA hs4
        go_wp2
        go_ret
        exact ⟨rfl, T2, HF.out, H3⟩
theorem jput_bad {key : ByteArray} {n : Int} (hk : key.size < 1000000) (n0 : -9223372036854775808 ≤ n) (n1 : n ≤ 9223372036854775807) {c : Int} (hc : checkN key n = c) (hb : c ≠ 0) (x : Int) {A : Nat} {w : World} :
    Calls Try.prog 9 #[.pointer (some ⟨A, 0, none⟩), .string key, .int .i64 n, .int .i64 x] w fun e w' => e = .returned (.int .i64 c) ∧ Wider w w' := by
  have zc := fun w => jcheck_c key n hk n0 n1 hc w
  have c1 : (c == 0) = false := by rw [beq_eq_false_iff_ne]; exact hb
  have c2 : (c != 0) = true := by simp [bne, c1]
  clear hb hc
  go_enter Try.func9, Try.ntmps9
  go_wp2_with (first
    | (go_at_call 24; ((with_reducible refine (zc _).mono ?_); rintro e w3 ⟨rfl, g⟩)))
  go_ret
  exact ⟨rfl, g⟩
theorem jput_nil {key : ByteArray} {n x : Int} {w : World} :
    Calls Try.prog 9 #[.pointer none, .string key, .int .i64 n, .int .i64 x] w fun e w' => e = .returned (.int .i64 2) ∧ Wider w w' := by
  go_enter Try.func9, Try.ntmps9
  go_wp2
  go_ret
  exact ⟨rfl, Wider.refl w⟩
end Go.Proofs.Ytjnccpbedffijaa
