/- Package trie: check, find, Get, Longest: by walks of its code. -/
import Derived.Test.YtjnccpbedffijaaJCodeA
import Derived.Test.YtjnccpbedffijaaJMathB
import Derived.Deep.RegionLaw
import Derived.OwnWalk
namespace Go.Proofs.Ytjnccpbedffijaa
set_option linter.unusedVariables false
open Go.ChangeShapes Go.WideShapes Go.ChangeAt Go.RowKit Go.Joins

theorem jcheck_c (key : ByteArray) (n : Int) (hk : key.size < 1000000) (n0 : -9223372036854775808 ≤ n) (n1 : n ≤ 9223372036854775807) {r : Int} (hr : checkN key n = r) (w : World) :
    Calls Try.prog 24 #[.string key, .int .i64 n] w fun e w' => e = .returned (.int .i64 r) ∧ Wider w w' := by
  unfold checkN at hr
  by_cases c1 : n < 0
  · rw [if_pos (.inl c1)] at hr
    subst hr
    have c2 : decide (n < 0) = true := decide_eq_true c1
    go_enter Try.func24, Try.ntmps24
    go_wp2
    go_ret
    exact ⟨rfl, Wider.refl w⟩
  by_cases c3 : 256 < n
  · rw [if_pos (.inr c3)] at hr
    subst hr
    have c2 : decide (n < 0) = false := decide_eq_false c1
    have c4 : decide (256 < n) = true := decide_eq_true c3
    go_enter Try.func24, Try.ntmps24
    go_wp2
    go_ret
    exact ⟨rfl, Wider.refl w⟩
  obtain ⟨m, rfl⟩ := Int.eq_ofNat_of_zero_le (show 0 ≤ n by omega)
  rw [if_neg (by omega)] at hr
  have m2 : m ≤ 256 := by omega
  have c2 : decide ((m : Int) < 0) = false := decide_eq_false c1
  have c4 : decide (256 < (m : Int)) = false := decide_eq_false c3
  have i0 : IntKind.i64.wrap ((m : Int) + 8) = (m : Int) + 8 := by simp [IntKind.wrap, IntKind.bits, IntKind.signed]; omega
  have i1 : IntKind.i64.wrap ((m : Int) + 8 - 1) = (m : Int) + 7 := by simp [IntKind.wrap, IntKind.bits, IntKind.signed]; omega
  have i2 : IntKind.i64.wrap ((m : Int) + 7) = (m : Int) + 7 := by simp [IntKind.wrap, IntKind.bits, IntKind.signed]; omega
  rw [Int.toNat_natCast] at hr
  by_cases c5 : key.size = (m + 7) / 8
  · rw [if_neg (by simpa using c5)] at hr
    have c6 : ((key.size : Int) == ((m : Int) + 7) / 8) = true := by rw [beq_iff_eq]; omega
    have c7 : ((key.size : Int) != ((m : Int) + 7) / 8) = false := by simp [bne, c6]
    have HR := Lib.hid hr
    have H5 := Lib.hid c5
    have k8 : 8 * key.size < 8000000 := by omega
    have w8 : IntKind.i64.wrap (8 * (key.size : Int)) = 8 * (key.size : Int) := by simp [IntKind.wrap, IntKind.bits, IntKind.signed]; omega
    clear hr c5
    go_enter Try.func24, Try.ntmps24
    go_wp2
    go_loopw [5] (fun i wr => Wider w wr ∧ ∃ k : Nat, m ≤ k ∧ k ≤ 8 * key.size ∧ i = .int .i64 (k : Int) ∧ Hid (∀ j, j < k → m ≤ j → bitS key j = 0)) (fun i _ => 8 * key.size - (intOf i).toNat)
    case atStart => exact ⟨Wider.refl w, m, Nat.le_refl _, by have := H5.out; omega, rfl, Lib.hid fun j h1 h2 => by omega⟩
    case round =>
      obtain ⟨g, k, k0, k1, rfl, HZ⟩ := hrel
      by_cases c : k < 8 * key.size
      · have c8 : (k : Int) < 8 * (key.size : Int) := by omega
        have zb := fun w => jbit_c key k hk (by omega) (l := (bitS key k : Int)) (is := true) (by unfold bitN; rw [if_pos c]) (by simp [c]) w
        have HB := Lib.hid (bitS_le key k)
        by_cases cb : bitS key k = 0
        · have cb2 : ((bitS key k : Int) == 0) = true := by rw [cb]; rfl
          rw [cb] at zb
          go_wp2_with (first
            | (go_at_call 32; ((with_reducible refine (zb _).mono ?_); rintro e w3 ⟨rfl, g3⟩; replace g := g.trans g3)))
          go_roundw
          case rel => exact ⟨g, k + 1, by omega, by omega, by go_num, Lib.hid fun j h1 h2 => by
            by_cases e : j = k
            · rw [e]; exact cb
            · exact HZ.out j (by omega) h2⟩
          case measure => simp [intOf]; omega
        · obtain ⟨z, hz⟩ : ∃ z : Int, (bitS key k : Int) = z := ⟨_, rfl⟩
          rw [hz] at zb
          have cz : (z == 0) = false := by rw [beq_eq_false_iff_ne]; omega
          have cz2 : (z != 0) = true := by simp [bne, cz]
          have er : r = 3 := by rw [← HR.out, if_neg (fun f => cb (f k c k0))]
          clear hz
          go_wp2_with (first
            | (go_at_call 32; ((with_reducible refine (zb _).mono ?_); rintro e w3 ⟨rfl, g3⟩; replace g := g.trans g3)))
          go_ret
          exact ⟨by rw [er]; rfl, g⟩
      · have c8 : ¬ (k : Int) < 8 * (key.size : Int) := by omega
        have er : r = 0 := by rw [← HR.out, if_pos (fun j h1 h2 => HZ.out j (by omega) h2)]
        go_wp2
        go_ret
        exact ⟨rfl, g⟩
  · rw [if_pos c5] at hr
    subst hr
    have c6 : ((key.size : Int) == ((m : Int) + 7) / 8) = false := by rw [beq_eq_false_iff_ne]; omega
    have c7 : ((key.size : Int) != ((m : Int) + 7) / 8) = true := by simp [bne, c6]
    go_enter Try.func24, Try.ntmps24
    go_wp2
    go_ret
    exact ⟨rfl, Wider.refl w⟩

/-! ### find -/
/-- A node that has a number; else none. -/
def gotJ : TB → TB
  | .node B c (some x) l r => .node B c (some x) l r
  | _ => .nil
theorem ptr_node {t : TB} {B : Nat} {c v : Option Int} {l r : TB} (h : t = .node B c v l r) : t.ptr = .pointer (some ⟨B, 0, none⟩) := by rw [h]; rfl
theorem sub_step {t : TB} {bs : List Bool} {k B : Nat} {c v : Option Int} {l r : TB} {d : Bool} (h : t.sub (bs.take k) = .node B c v l r) (hd : bs[k]? = some d) : t.sub (bs.take (k + 1)) = childJ d l r := by
  rw [List.take_add_one, hd, TB.sub_append, h]
  cases d <;> cases l <;> cases r <;> rfl
theorem sub_gone {t : TB} {bs : List Bool} {k : Nat} (h : t.sub (bs.take k) = .nil) : t.sub bs = .nil := by
  rw [← List.take_append_drop k bs, TB.sub_append, h]
  cases bs.drop k <;> rfl
set_option maxHeartbeats 2000000 in
theorem jfind_c {key : ByteArray} {bs : List Bool} (hb : IsKey key bs) {n : Int} (hn : n = (bs.length : Int)) {A : Nat} {cn v : Option Int} {l r : TB} {w : World} (h : (TB.node A cn v l r).At w) :
    Calls Try.prog 27 #[.pointer (some ⟨A, 0, none⟩), .string key, .int .i64 n] w fun e w' => e = .returned (gotJ ((TB.node A cn v l r).sub bs)).ptr ∧ Wider w w' := by
  obtain ⟨m, hm⟩ : ∃ m, bs.length = m := ⟨_, rfl⟩
  rw [hm] at hn
  subst hn
  have hk : key.size < 1000000 := by have := hb.size_le; omega
  have m2 : m ≤ 256 := by have := hb.few; omega
  have ml : m ≤ 8 * key.size := by have := hb.long; omega
  have zc := fun w => jcheck_c key (m : Int) hk (by omega) (by omega) (r := 0) (by rw [← hm]; exact checkN_ok hb) w
  obtain ⟨t, ht⟩ : ∃ t, TB.node A cn v l r = t := ⟨_, rfl⟩
  have hp : t.ptr = .pointer (some ⟨A, 0, none⟩) := by rw [← ht]; rfl
  rw [ht] at h ⊢
  have HP := Lib.hid hp
  have HM := Lib.hid hm
  have HB := Lib.hid hb
  have HA := Lib.hid h
  clear hp hm hb h ht
  go_enter Try.func27, Try.ntmps27
  go_wp2_with (first
    | (go_at_call 24; ((with_reducible refine (zc _).mono ?_); rintro e w3 ⟨rfl, g⟩)))
  go_loopw [7, 8] (fun x i wr => Wider w wr ∧ ∃ k : Nat, k ≤ m ∧ i = .int .i64 (k : Int) ∧ x = (t.sub (bs.take k)).ptr) (fun _ i _ => m - (intOf i).toNat)
  case atStart => exact ⟨g, 0, Nat.zero_le _, rfl, by rw [List.take_zero, TB.sub_nil]; exact HP.out.symm⟩
  case round =>
    clear g zc
    obtain ⟨g, k, k0, rfl, rfl⟩ := hrel
    have hat := (HA.out.sub (bs.take k)).wider g
    cases hs : t.sub (bs.take k) with
    | nil =>
      have HS := Lib.hid (sub_gone hs)
      have e0 : TB.nil.ptr = .pointer none := rfl
      clear hs hat
      rw [e0]
      by_cases c : k < m
      · have c1 : (k : Int) < (m : Int) := by omega
        go_wp2
        go_ret
        exact ⟨by rw [HS.out]; rfl, g⟩
      · have c1 : ¬ (k : Int) < (m : Int) := by omega
        go_wp2
        go_ret
        exact ⟨by rw [HS.out]; rfl, g⟩
    | node B c2 v2 l2 r2 =>
      rw [hs] at hat
      have hB := hat.1
      have e0 : (TB.node B c2 v2 l2 r2).ptr = .pointer (some ⟨B, 0, none⟩) := rfl
      have HS := Lib.hid hs
      clear hat hs
      rw [e0]
      by_cases c : k < m
      · have c1 : (k : Int) < (m : Int) := by omega
        have hd := HB.out.at_ k (by rw [HM.out]; exact c)
        have zn := fun w => jnext_c key k hk (by omega) (by omega) (B := B) (cn := c2) (v := v2) (l := l2) (r := r2) (bit_toNat key k).symm (w := w)
        have HN := Lib.hid (sub_step HS.out hd)
        have HBB := Lib.hid hB
        clear hd hB
        go_wp2_with (first
          | (go_at_call 26; ((with_reducible refine (zn _ HBB.out).mono ?_); rintro e w3 ⟨rfl, g3⟩; replace g := g.trans g3)))
        go_roundw
        case rel => exact ⟨g, k + 1, by omega, by go_num, by rw [HN.out]⟩
        case measure => simp [intOf]; omega
      · have c1 : ¬ (k : Int) < (m : Int) := by omega
        have e3 : bs.take k = bs := List.take_of_length_le (by rw [HM.out]; omega)
        have c3 := blk_cell hB 2 (cellsJ_2 c2 v2 l2.ptr r2.ptr)
        have c4 := blk_cell hB 3 (cellsJ_3 c2 v2 l2.ptr r2.ptr)
        have HT := Lib.hid (show t.sub bs = .node B c2 v2 l2 r2 by rw [← e3]; exact HS.out)
        clear hB HS e3
        cases v2 with
        | none =>
          simp only [Option.isSome_none] at c4
          go_wp2
          go_ret
          exact ⟨by rw [HT.out]; rfl, g⟩
        | some x =>
          simp only [Option.isSome_some] at c4
          go_wp2
          go_ret
          exact ⟨by rw [HT.out]; rfl, g⟩
theorem jfind_bad {key : ByteArray} {n : Int} (hk : key.size < 1000000) (n0 : -9223372036854775808 ≤ n) (n1 : n ≤ 9223372036854775807) (hb : checkN key n ≠ 0) {A : Nat} {w : World} :
    Calls Try.prog 27 #[.pointer (some ⟨A, 0, none⟩), .string key, .int .i64 n] w fun e w' => e = .returned (.pointer none) ∧ Wider w w' := by
  obtain ⟨c, hc⟩ : ∃ c, checkN key n = c := ⟨_, rfl⟩
  have zc := fun w => jcheck_c key n hk n0 n1 hc w
  rw [hc] at hb
  have c1 : (c == 0) = false := by rw [beq_eq_false_iff_ne]; exact hb
  have c2 : (c != 0) = true := by simp [bne, c1]
  clear hb hc
  go_enter Try.func27, Try.ntmps27
  go_wp2_with (first
    | (go_at_call 24; ((with_reducible refine (zc _).mono ?_); rintro e w3 ⟨rfl, g⟩)))
  go_ret
  exact ⟨rfl, g⟩
theorem jfind_none {key : ByteArray} {n : Int} {w : World} :
    Calls Try.prog 27 #[.pointer none, .string key, .int .i64 n] w fun e w' => e = .returned (.pointer none) ∧ Wider w w' := by
  go_enter Try.func27, Try.ntmps27
  go_wp2
  go_ret
  exact ⟨rfl, Wider.refl w⟩

/-! ### Get, Len, New -/
/-- A trie: its block, and what it has. -/
structure IsTrie (A : Nat) (t : Tr) (T : TB) : Prop where
  root : ∃ v l r, T = .node A (some (t.count : Int)) v l r
  get : ∀ bs, T.tr.get bs = t.get bs
  lim : T.tr.Lim 257
theorem IsTrie.ptr {A : Nat} {t : Tr} {T : TB} (h : IsTrie A t T) : T.ptr = .pointer (some ⟨A, 0, none⟩) := by
  obtain ⟨v, l, r, rfl⟩ := h.root; rfl
theorem got_sub {T : TB} {bs : List Bool} : (T.tr.get bs = none ∧ gotJ (T.sub bs) = .nil) ∨ ∃ x B c l r, T.tr.get bs = some x ∧ T.sub bs = .node B c (some x) l r ∧ gotJ (T.sub bs) = .node B c (some x) l r := by
  have e := TB.get_sub T bs []
  rw [List.append_nil] at e
  rw [e]
  cases T.sub bs with
  | nil => exact .inl ⟨rfl, rfl⟩
  | node B c v l r =>
    cases v with
    | none => exact .inl ⟨rfl, rfl⟩
    | some x => exact .inr ⟨x, B, c, l, r, rfl, rfl, rfl⟩
/-- What Get tells. -/
def ansJ (o : Option Int) : Value := .tuple #[.int .i64 (o.getD 0), .bool o.isSome]
theorem jget_c {key : ByteArray} {bs : List Bool} (hb : IsKey key bs) {n : Int} (hn : n = (bs.length : Int)) {A : Nat} {t : Tr} {T : TB} (ht : IsTrie A t T) {w : World} (h : T.At w) {o : Option Int} (ho : t.get bs = o) :
    Calls Try.prog 13 #[.pointer (some ⟨A, 0, none⟩), .string key, .int .i64 n] w fun e w' => e = .returned (ansJ o) ∧ Wider w w' := by
  have hg := ht.get bs
  rw [ho] at hg
  obtain ⟨v, l, r, rfl⟩ := ht.root
  have zf := jfind_c hb hn h
  rcases got_sub (T := .node A (some (t.count : Int)) v l r) (bs := bs) with ⟨e1, e2⟩ | ⟨x, B, c, l2, r2, e1, e2, e3⟩
  · rw [e2] at zf
    obtain rfl : o = none := by rw [← hg, e1]
    have zf : Calls Try.prog 27 #[.pointer (some ⟨A, 0, none⟩), .string key, .int .i64 n] w fun e w' => e = .returned (.pointer none) ∧ Wider w w' := zf
    clear hn hb ho hg e1 e2 h ht
    go_enter Try.func13, Try.ntmps13
    go_wp2_with (first
      | (go_at_call 27; ((with_reducible refine zf.mono ?_); rintro e w3 ⟨rfl, g⟩)))
    go_ret2
    exact ⟨rfl, g⟩
  · rw [e3] at zf
    obtain rfl : o = some x := by rw [← hg, e1]
    have zf : Calls Try.prog 27 #[.pointer (some ⟨A, 0, none⟩), .string key, .int .i64 n] w fun e w' => e = .returned (.pointer (some ⟨B, 0, none⟩)) ∧ Wider w w' := zf
    have h2 := h.sub bs
    rw [e2] at h2
    have c2 := blk_cell h2.1 2 (cellsJ_2 c (some x) l2.ptr r2.ptr)
    simp only [Option.getD_some] at c2
    clear hn hb ho hg e1 e2 h ht h2
    go_enter Try.func13, Try.ntmps13
    go_wp2_with (first
      | (go_at_call 27; ((with_reducible refine zf.mono ?_); rintro e w3 ⟨rfl, g⟩; replace c2 := wkeep g c2)))
    go_ret2
    exact ⟨rfl, g⟩
theorem jget_nil {key : ByteArray} {n : Int} {p : Value} {w : World} (zf : Calls Try.prog 27 #[p, .string key, .int .i64 n] w fun e w' => e = .returned (.pointer none) ∧ Wider w w') :
    Calls Try.prog 13 #[p, .string key, .int .i64 n] w fun e w' => e = .returned (ansJ none) ∧ Wider w w' := by
  go_enter Try.func13, Try.ntmps13
  go_wp2_with (first
    | (go_at_call 27; ((with_reducible refine zf.mono ?_); rintro e w3 ⟨rfl, g⟩)))
  go_ret2
  exact ⟨rfl, g⟩
theorem jlen_c {A : Nat} {t : Tr} {T : TB} (ht : IsTrie A t T) {w : World} (h : T.At w) :
    Calls Try.prog 10 #[.pointer (some ⟨A, 0, none⟩)] w fun e w' => e = .returned (.int .i64 (t.count : Int)) ∧ Wider w w' := by
  obtain ⟨v, l, r, rfl⟩ := ht.root
  have c4 := blk_cell h.1 4 (cellsJ_4 (t.count : Int) v l.ptr r.ptr)
  clear h ht
  go_enter Try.func10, Try.ntmps10
  go_wp2
  go_ret
  exact ⟨rfl, Wider.refl w⟩
theorem jlen_nil {w : World} : Calls Try.prog 10 #[.pointer none] w fun e w' => e = .returned (.int .i64 0) ∧ Wider w w' := by
  go_enter Try.func10, Try.ntmps10
  go_wp2
  go_ret
  exact ⟨rfl, Wider.refl w⟩
theorem isTrie_new (A : Nat) : IsTrie A .nil (.node A (some 0) none .nil .nil) :=
  ⟨⟨none, .nil, .nil, rfl⟩, fun bs => by cases bs with | nil => rfl | cons b bs => cases b <;> cases bs <;> rfl, ⟨256, rfl, trivial, trivial⟩⟩
theorem jnew_c {V w : World} {R : List Thing} (H : Own V w R) : Calls Try.prog 18 #[] w fun e w' => ∃ A T, e = .returned (.pointer (some ⟨A, 0, none⟩)) ∧ IsTrie A .nil T ∧ Own V w' (treeT T :: R) := by
  have H1 : Own V (w.alloc (.cells #[.pointer none, .pointer none, .int .i64 0, .bool false, .int .i64 0] 29)) (treeT (.node w.heap.size (some 0) none .nil .nil) :: R) :=
    (H.blk #[.pointer none, .pointer none, .int .i64 0, .bool false, .int .i64 0] 29).noTree.noTree.third.treeShut rfl rfl
  clear H
  go_enter Try.func18, Try.ntmps18
  go_wp2
  go_ret
  exact ⟨_, _, rfl, isTrie_new _, H1⟩

/-! ### Longest -/
def numJ (o : Option (Nat × Int)) : Int := match o with | some (k, _) => (k : Int) | none => 0
def valJ (o : Option (Nat × Int)) : Int := match o with | some (_, x) => x | none => 0
def ans3J (o : Option (Nat × Int)) : Value := .tuple #[.int .i64 (numJ o), .int .i64 (valJ o), .bool o.isSome]
set_option maxHeartbeats 2000000 in
theorem jlongest_c (key : ByteArray) (hk : key.size < 1000000) {A : Nat} {t : Tr} {T : TB} (ht : IsTrie A t T) {w : World} (h : T.At w) {o : Option (Nat × Int)} (ho : t.longest (bitL key) = o) :
    Calls Try.prog 11 #[.pointer (some ⟨A, 0, none⟩), .string key] w fun e w' => e = .returned (ans3J o) ∧ Wider w w' := by
  rw [← Tr.longest_same T.tr t ht.get] at ho
  obtain ⟨m, hm⟩ : ∃ m, 8 * key.size = m := ⟨_, rfl⟩
  obtain ⟨bs, hb⟩ : ∃ bs, bitL key = bs := ⟨_, rfl⟩
  have hl : bs.length = m := by rw [← hb, bitL_length, hm]
  have HP := Lib.hid ht.ptr
  have HO := Lib.hid (hb ▸ ho)
  have HA := Lib.hid h
  have HL := Lib.hid hl
  have HM := Lib.hid hm
  have HB := Lib.hid hb
  have m8 : m < 8000000 := by omega
  clear ht h ho hm hb hl
  go_enter Try.func11, Try.ntmps11
  go_wp2
  go_loopw [4, 5, 6, 7, 8] (fun a b c x i wr => Wider w wr ∧ ∃ (k : Nat) (best : Option (Nat × Int)) (S : TB), k ≤ m + 1 ∧ i = .int .i64 (k : Int) ∧ a = .int .i64 (numJ best) ∧ b = .int .i64 (valJ best) ∧ c = .bool best.isSome ∧ x = S.ptr ∧ Hid (S.At w) ∧ Hid (Tr.comb k (S.tr.longest (bs.drop k)) best = o) ∧ Hid (k = m + 1 → S = .nil)) (fun _ _ _ _ i _ => m + 1 - (intOf i).toNat)
  case atStart =>
    refine ⟨Wider.refl w, 0, none, T, by omega, rfl, rfl, rfl, rfl, HP.out.symm, HA, Lib.hid ?_, Lib.hid fun e => by omega⟩
    rw [List.drop_zero, ← HO.out]
    cases T.tr.longest bs <;> rfl
  case round =>
    obtain ⟨g, k, best, S, k0, rfl, rfl, rfl, rfl, rfl, HS, HC, HE⟩ := hrel
    cases S with
    | nil =>
      have e0 : TB.nil.ptr = .pointer none := rfl
      have eo : best = o := by rw [← HC.out]; exact (Tr.comb_nil k _ best).symm
      have EO := Lib.hid eo
      clear eo
      rw [e0]
      go_wp2
      go_ret3
      exact ⟨by rw [← EO.out]; rfl, g⟩
    | node B c2 v2 l2 r2 =>
      have e0 : (TB.node B c2 v2 l2 r2).ptr = .pointer (some ⟨B, 0, none⟩) := rfl
      have km : k ≤ m := by
        rcases Nat.lt_or_ge m k with q | q
        · have := HE.out (by omega); cases this
        · exact q
      have c3 := wkeep g (blk_cell HS.out.1 2 (cellsJ_2 c2 v2 l2.ptr r2.ptr))
      have c4 := wkeep g (blk_cell HS.out.1 3 (cellsJ_3 c2 v2 l2.ptr r2.ptr))
      obtain ⟨nb, hnb⟩ : ∃ nb, Tr.bestJ v2 k best = nb := ⟨_, rfl⟩
      rw [e0]
      have zn : ∃ S2 : TB, Hid (S2.At w) ∧ Hid (Tr.comb (k + 1) (S2.tr.longest (bs.drop (k + 1))) nb = o) ∧ Hid (k + 1 = m + 1 → S2 = .nil) ∧
          ∀ w1, Wider w w1 → Calls Try.prog 26 #[.pointer (some ⟨B, 0, none⟩), .string key, .int .i64 (k : Int)] w1 fun e w' => e = .returned S2.ptr ∧ Wider w1 w' := by
        by_cases c : k < m
        · have hd : bs[k]? = some (decide (bitS key k = 1)) := by rw [← HB.out]; exact bitL_at key k (by rw [HM.out]; exact c)
          obtain ⟨hk2, hd2⟩ := List.getElem?_eq_some_iff.1 hd
          refine ⟨childJ (decide (bitS key k = 1)) l2 r2, Lib.hid ?_, Lib.hid ?_, Lib.hid (fun e => by omega), fun w1 g1 => jnext_c key k hk (by omega) (by rw [HM.out]; exact c) (bit_toNat key k).symm ((wheap g1 (HS.out.lt B (by simp [TB.blocks]))).trans HS.out.1)⟩
          · unfold childJ; split
            · exact HS.out.2.2
            · exact HS.out.2.1
          · rw [← HC.out, List.drop_eq_getElem_cons hk2, hd2, ← hnb]
            have := Tr.comb_step v2 l2.tr r2.tr (decide (bitS key k = 1)) (bs.drop (k + 1)) k best
            rw [show (TB.node B c2 v2 l2 r2).tr = .node v2 l2.tr r2.tr from rfl, this]
            congr 2
            unfold childJ; split <;> rfl
        · obtain rfl : k = m := by omega
          refine ⟨.nil, Lib.hid trivial, Lib.hid ?_, Lib.hid (fun _ => rfl), fun w1 g1 => jnext_none key k hk (by omega) (by rw [HM.out]; omega) _ w1⟩
          rw [← HC.out, List.drop_of_length_le (by rw [HL.out]; omega), List.drop_of_length_le (by rw [HL.out]; omega), ← hnb]
          rw [show (TB.node B c2 v2 l2 r2).tr = .node v2 l2.tr r2.tr from rfl, Tr.comb_end]
          rfl
      obtain ⟨S2, H1, H2, H3, zn⟩ := zn
      clear HC HE HS
      cases v2 with
      | none =>
        obtain rfl : best = nb := hnb
        simp only [Option.isSome_none] at c4
        go_wp2_with (first
          | (go_at_call 26; ((with_reducible refine (zn _ g).mono ?_); rintro e w3 ⟨rfl, g3⟩; replace g := g.trans g3)))
        go_roundw
        case rel => exact ⟨g, k + 1, best, S2, by omega, by go_num, rfl, rfl, rfl, rfl, H1, H2, H3⟩
        case measure => simp [intOf]; omega
      | some x =>
        obtain rfl : some (k, x) = nb := hnb
        simp only [Option.isSome_some, Option.getD_some] at c3 c4
        go_upto_region 8 with (fail)
        replace g := g.drew
        go_region_law (fail)
        all_goals
          go_wp2_with (first
            | (go_at_call 26; ((with_reducible refine (zn _ g).mono ?_); rintro e w3 ⟨rfl, g3⟩; replace g := g.trans g3)))
          go_roundw
          case rel => exact ⟨g, k + 1, some (k, x), S2, by omega, by go_num, rfl, rfl, rfl, rfl, H1, H2, H3⟩
          case measure => simp [intOf]; omega
theorem jlongest_nil (key : ByteArray) {w : World} : Calls Try.prog 11 #[.pointer none, .string key] w fun e w' => e = .returned (ans3J none) ∧ Wider w w' := by
  go_enter Try.func11, Try.ntmps11
  go_wp2
  go_ret3
  exact ⟨rfl, Wider.refl w⟩
end Go.Proofs.Ytjnccpbedffijaa
