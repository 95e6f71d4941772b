/- What a trie does at any key; rows of items; same, item, finds: by walks. -/
import Derived.Test.YtjnccpbedffijaaJCodeF
import Derived.Test.YtjnccpbedffijaaJActs
namespace Go.Proofs.Ytjnccpbedffijaa
set_option linter.unusedVariables false
open Go.ChangeShapes Go.WideShapes Go.ChangeAt Go.RowKit Go.Joins

/-! ### At any key -/
def bitsK (key : ByteArray) (n : Int) : List Bool := (bitL key).take n.toNat
theorem isKey_of {key : ByteArray} {n : Int} (h : checkN key n = 0) : IsKey key (bitsK key n) ∧ n = ((bitsK key n).length : Int) := by
  obtain ⟨bs, h1, h2⟩ := (checkN_is key n).ok h
  have e : bitsK key n = bs := by unfold bitsK; rw [h2, Int.toNat_natCast]; exact h1.take
  rw [e]; exact ⟨h1, h2⟩
theorem bitsK_key {key : ByteArray} {bs : List Bool} (h : IsKey key bs) {n : Int} (hn : n = (bs.length : Int)) : bitsK key n = bs := by
  unfold bitsK; rw [hn, Int.toNat_natCast]; exact h.take
def putK (t : Tr) (key : ByteArray) (n x : Int) : Tr := if checkN key n = 0 then t.put (bitsK key n) x else t
def delK (t : Tr) (key : ByteArray) (n : Int) : Tr := if checkN key n = 0 then t.del (bitsK key n) else t
def getK (t : Tr) (key : ByteArray) (n : Int) : Option Int := if checkN key n = 0 then t.get (bitsK key n) else none
theorem count_putK (t : Tr) (key : ByteArray) (n x : Int) : (putK t key n x).count ≤ t.count + 1 := by
  unfold putK; split
  · rw [Tr.count_put]; split <;> omega
  · omega
theorem count_delK (t : Tr) (key : ByteArray) (n : Int) : (delK t key n).count ≤ t.count := by
  unfold delK; split
  · have := Tr.count_del t (bitsK key n); omega
  · omega
theorem jput_g {key : ByteArray} {n x : Int} (hk : key.size < 1000000) (n0 : -9223372036854775808 ≤ n) (n1 : n ≤ 9223372036854775807) {A : Nat} {t : Tr} {T : TB} (ht : IsTrie A t T) (hcn : t.count < 1000000) {V w : World} {R : List Thing} (H : Own V w (treeT T :: R)) {c : Int} (hc : checkN key n = c) :
    Calls Try.prog 9 #[.pointer (some ⟨A, 0, none⟩), .string key, .int .i64 n, .int .i64 x] w fun e w' => e = .returned (.int .i64 c) ∧ ∃ T', IsTrie A (putK t key n x) T' ∧ Own V w' (treeT T' :: R) := by
  by_cases e : c = 0
  · subst e
    obtain ⟨k1, k2⟩ := isKey_of hc
    have e2 : putK t key n x = t.put (bitsK key n) x := by unfold putK; rw [if_pos hc]
    rw [e2]
    exact jput_c k1 k2 x ht hcn H
  · have e2 : putK t key n x = t := by unfold putK; rw [if_neg (by rw [hc]; exact e)]
    rw [e2]
    exact (jput_bad hk n0 n1 hc e x).mono fun e w' ⟨he, g⟩ => ⟨he, T, ht, H.quiet g⟩
theorem jdel_g {key : ByteArray} {n : Int} (hk : key.size < 1000000) (n0 : -9223372036854775808 ≤ n) (n1 : n ≤ 9223372036854775807) {A : Nat} {t : Tr} {T : TB} (ht : IsTrie A t T) (hcn : t.count < 1000000) {V w : World} {R : List Thing} (H : Own V w (treeT T :: R)) {b : Bool} (hb : (getK t key n).isSome = b) :
    Calls Try.prog 12 #[.pointer (some ⟨A, 0, none⟩), .string key, .int .i64 n] w fun e w' => e = .returned (.bool b) ∧ ∃ T', IsTrie A (delK t key n) T' ∧ Own V w' (treeT T' :: R) := by
  by_cases e : checkN key n = 0
  · obtain ⟨k1, k2⟩ := isKey_of e
    have e2 : delK t key n = t.del (bitsK key n) := by unfold delK; rw [if_pos e]
    have e3 : getK t key n = t.get (bitsK key n) := by unfold getK; rw [if_pos e]
    rw [e2]
    rw [e3] at hb
    exact jdel_c k1 k2 ht hcn H hb
  · have e2 : delK t key n = t := by unfold delK; rw [if_neg e]
    have e3 : getK t key n = none := by unfold getK; rw [if_neg e]
    rw [e3] at hb
    subst hb
    rw [e2]
    exact (jdel_nil (jfind_bad hk n0 n1 e)).mono fun e w' ⟨he, g⟩ => ⟨he, T, ht, H.quiet g⟩
theorem jget_g {key : ByteArray} {n : Int} (hk : key.size < 1000000) (n0 : -9223372036854775808 ≤ n) (n1 : n ≤ 9223372036854775807) {A : Nat} {t : Tr} {T : TB} (ht : IsTrie A t T) {w : World} (h : T.At w) {o : Option Int} (ho : getK t key n = o) :
    Calls Try.prog 13 #[.pointer (some ⟨A, 0, none⟩), .string key, .int .i64 n] w fun e w' => e = .returned (ansJ o) ∧ Wider w w' := by
  by_cases e : checkN key n = 0
  · obtain ⟨k1, k2⟩ := isKey_of e
    have e3 : getK t key n = t.get (bitsK key n) := by unfold getK; rw [if_pos e]
    exact jget_c k1 k2 ht h (e3.symm.trans ho)
  · have e3 : getK t key n = none := by unfold getK; rw [if_neg e]
    rw [e3] at ho
    subst ho
    exact jget_nil (jfind_bad hk n0 n1 e)

/-! ### Rows of items -/
structure ItemAt (w : World) (a : Addr) (x : List Bool × Int) : Prop where
  c0 : w.cell? a = some (.string (keyJ x.1))
  c1 : w.cell? ⟨a.block, a.off + 1, none⟩ = some (.int .i64 (x.1.length : Int))
  c2 : w.cell? ⟨a.block, a.off + 2, none⟩ = some (.int .i64 x.2)
theorem ItemAt.on {W w : World} {a : Addr} {x : List Bool × Int} (h : ItemAt W a x) (g : Wider W w) : ItemAt w a x := ⟨wkeep g h.c0, wkeep g h.c1, wkeep g h.c2⟩
theorem cellsI_at : ∀ (l : List (List Bool × Int)) (j : Nat) (x : List Bool × Int), l[j]? = some x → (cellsI l)[j * 3]? = some (.string (keyJ x.1)) ∧ (cellsI l)[j * 3 + 1]? = some (.int .i64 (x.1.length : Int)) ∧ (cellsI l)[j * 3 + 2]? = some (.int .i64 x.2)
  | [], j, x, h => by simp at h
  | y :: l, 0, x, h => by
    simp at h
    subst h
    exact ⟨rfl, rfl, rfl⟩
  | y :: l, j + 1, x, h => by
    have ih := cellsI_at l j x (by simpa using h)
    have e : ∀ i, (cellsI (y :: l))[(j + 1) * 3 + i]? = (cellsI l)[j * 3 + i]? := fun i => by
      show (cellI y ++ cellsI l)[(j + 1) * 3 + i]? = _
      rw [List.getElem?_append_right (by simp [cellI]; omega)]
      congr 1
      simp [cellI]; omega
    exact ⟨by have := e 0; simpa using this.trans ih.1, (e 1).trans ih.2.1, (e 2).trans ih.2.2⟩
theorem Own.blockI {V w : World} {R : List Thing} {A : Option Addr} {n c : Nat} {l : List (List Bool × Int)} (H : Own V w (rowI (.slice A n c) n l :: R)) (hl : l ≠ []) :
    ∃ g, A = some ⟨g, 0, none⟩ ∧ ∀ i u, (cellsI l)[i]? = some u → w.cell? ⟨g, i, none⟩ = some u := by
  rcases H.head.2 with ⟨e, e2⟩ | ⟨g, cap, cur, e, hb, hg, hnc, hcm, hcs, htake⟩
  · have q := H.head.1
    injection e with e3 e4 e5
    subst e4
    rw [cellsI_length] at q
    exact absurd (List.length_eq_zero_iff.1 (show l.length = 0 by omega)) hl
  · injection e with e3 e4 e5
    subst e3
    have hh := H.head
    refine ⟨g, rfl, fun i u hu => ?_⟩
    have k := hh.cells (g := g) (by rfl) i u hu
    rw [Addr.add_lit, Nat.zero_add] at k
    exact k
/-- The items that stand in a row that a call owns. -/
theorem Own.item {V w : World} {R : List Thing} {A : Option Addr} {n c : Nat} {l : List (List Bool × Int)} (H : Own V w (rowI (.slice A n c) n l :: R)) {j : Nat} {x : List Bool × Int} (hx : l[j]? = some x) :
    ∃ a, A = some a ∧ ItemAt w (a.add (j * 3)) x := by
  rcases H.head.2 with ⟨e, e2⟩ | ⟨g, cap, cur, e, hb, hg, hnc, hcm, hcs, htake⟩
  · have q := H.head.1
    injection e with e3 e4 e5
    subst e4
    rw [cellsI_length] at q
    have : l.length = 0 := by omega
    rw [List.length_eq_zero_iff.1 this] at hx
    simp at hx
  · injection e with e3 e4 e5
    subst e3
    obtain ⟨h0, h1, h2⟩ := cellsI_at l j x hx
    have hh := H.head
    have k := fun i u hu => hh.cells (g := g) (by rfl) i u hu
    refine ⟨_, rfl, ?_, ?_, ?_⟩
    · have := k _ _ h0; exact this
    · have := k _ _ h1; rw [Addr.add_lit] at this; rw [Addr.add_lit]; simpa [Nat.add_assoc] using this
    · have := k _ _ h2; rw [Addr.add_lit] at this; rw [Addr.add_lit]; simpa [Nat.add_assoc] using this
/-! ### same, item, finds -/
theorem Own.noneI {V w : World} {R : List Thing} {n c : Nat} {l : List (List Bool × Int)} (H : Own V w (rowI (.slice none n c) n l :: R)) : l = [] := by
  cases l with
  | nil => rfl
  | cons x l =>
    obtain ⟨a, e, _⟩ := H.item (j := 0) (x := x) rfl
    cases e
set_option maxHeartbeats 2000000 in
/-- Two rows of the same items are the same. -/
theorem jsame_c {V w : World} {R : List Thing} {A B : Option Addr} {n c n2 c2 : Nat} {l : List (List Bool × Int)} (h1 : ∀ j x, l[j]? = some x → ∃ a, A = some a ∧ ItemAt w (a.add (j * 3)) x) (h2 : ∀ j x, l[j]? = some x → ∃ a, B = some a ∧ ItemAt w (a.add (j * 3)) x) (hn : l.length = n) (hn2 : n2 = n) (hl : n < 1000000) :
    Calls Try.prog 19 #[.slice A n c, .slice B n2 c2] w fun e w' => e = .returned (.bool true) ∧ Wider w w' := by
  subst hn2
  have HN := Lib.hid hn
  have H1 := Lib.hid h1
  have H2 := Lib.hid h2
  clear hn h1 h2
  go_enter Try.func19, Try.ntmps19
  go_wp2
  go_loopw [5] (fun i wr => Wider w wr ∧ ∃ k : Nat, k ≤ n2 ∧ i = .int .i64 (k : Int)) (fun i _ => n2 - (intOf i).toNat)
  case atStart => exact ⟨Wider.refl _, 0, Nat.zero_le _, rfl⟩
  case round =>
    obtain ⟨g, k, k0, rfl⟩ := hrel
    by_cases q : k < n2
    · have q0 : (0 : Int) ≤ (k : Int) := by omega
      have q1 : (k : Int) < (n2 : Int) := by omega
      obtain ⟨x, hx⟩ : ∃ x, l[k]? = some x := ⟨l[k]'(by have := HN.out; omega), List.getElem?_eq_getElem _⟩
      obtain ⟨a, rfl, ha⟩ := H1.out k x hx
      obtain ⟨b, rfl, hb⟩ := H2.out k x hx
      have a0 := wkeep g ha.c0
      have a1 := wkeep g ha.c1
      have a2 := wkeep g ha.c2
      have b0 := wkeep g hb.c0
      have b1 := wkeep g hb.c1
      have b2 := wkeep g hb.c2
      obtain ⟨S, hS⟩ : ∃ S, keyJ x.1 = S := ⟨_, rfl⟩
      obtain ⟨m, hm⟩ : ∃ m : Int, (x.1.length : Int) = m := ⟨_, rfl⟩
      obtain ⟨y, hy⟩ : ∃ y, x.2 = y := ⟨_, rfl⟩
      rw [hS] at a0 b0
      rw [hm] at a1 b1
      rw [hy] at a2 b2
      clear ha hb hS hm hy hx
      go_upto_region 6 with (fail)
      go_region_law (fail)
      all_goals
        go_wp2
        go_roundw
        case rel => exact ⟨g, k + 1, by omega, by go_num⟩
        case measure => simp [intOf]; omega
    · have q1 : ¬ (k : Int) < (n2 : Int) := by omega
      go_wp2
      go_ret
      exact ⟨rfl, g⟩
theorem jitem_c (s : ByteArray) (n x : Int) (w : World) : Calls Try.prog 22 #[.agg #[.string s, .int .i64 n, .int .i64 x]] w fun e w' => e = .returned (.agg #[.string s, .int .i64 n, .int .i64 x]) ∧ Wider w w' := by
  have g1 := ((Wider.refl w).alloc (.cells #[.string s, .int .i64 n, .int .i64 x] 46)).alloc (.cells #[.string s, .int .i64 n, .int .i64 x] 53)
  go_enter Try.func22, Try.ntmps22
  go_wp2
  simp [bodyPost, results, Try.results22, go_sem]
  exact g1
theorem jfinds_c (key : ByteArray) (hk : key.size < 1000000) {A : Nat} {t : Tr} {T : TB} (ht : IsTrie A t T) {w : World} (h : T.At w) {n : Nat} {x : Int} (ho : t.longest (bitL key) = some (n, x)) {m : Int} (hm : m = (n : Int)) :
    Calls Try.prog 23 #[.pointer (some ⟨A, 0, none⟩), .string key, .int .i64 m, .int .i64 x] w fun e w' => e = .returned (.bool true) ∧ Wider w w' := by
  subst hm
  have zl := jlongest_c key hk ht h ho
  have zl : Calls Try.prog 11 #[.pointer (some ⟨A, 0, none⟩), .string key] w fun e w' => e = .returned (.tuple #[.int .i64 (n : Int), .int .i64 x, .bool true]) ∧ Wider w w' := zl
  clear h ht ho
  go_enter Try.func23, Try.ntmps23
  go_wp2_with (first
    | (go_at_call 11; ((with_reducible refine zl.mono ?_); rintro e w3 ⟨rfl, g⟩)))
  go_ret
  exact ⟨rfl, g⟩

/-! ### Calls that read, beside other things -/
theorem mem1 {a : Thing} {l : List Thing} : a ∈ a :: l := List.mem_cons_self
theorem mem2 {a b : Thing} {l : List Thing} : a ∈ b :: a :: l := List.mem_cons_of_mem _ mem1
theorem mem3 {a b c : Thing} {l : List Thing} : a ∈ b :: c :: a :: l := List.mem_cons_of_mem _ mem2
theorem mem4 {a b c d : Thing} {l : List Thing} : a ∈ b :: c :: d :: a :: l := List.mem_cons_of_mem _ mem3
theorem mem5 {a b c d e : Thing} {l : List Thing} : a ∈ b :: c :: d :: e :: a :: l := List.mem_cons_of_mem _ mem4
theorem mem6 {a b c d e f : Thing} {l : List Thing} : a ∈ b :: c :: d :: e :: f :: a :: l := List.mem_cons_of_mem _ mem5
theorem Own.tree {V w : World} {L : List Thing} (H : Own V w L) {T : TB} (m : treeT T ∈ L) : T.At w := (H.holds _ m).1
theorem jfinds_o {key : ByteArray} (hk : key.size < 1000000) {A : Nat} {t : Tr} {T : TB} (ht : IsTrie A t T) {V w : World} {L : List Thing} (H : Own V w L) (hm : treeT T ∈ L) {n : Nat} {x m : Int} (ho : t.longest (bitL key) = some (n, x) ∧ m = (n : Int)) :
    Calls Try.prog 23 #[.pointer (some ⟨A, 0, none⟩), .string key, .int .i64 m, .int .i64 x] w fun e w' => e = .returned (.bool true) ∧ Own V w' L :=
  (jfinds_c key hk ht (H.tree hm) ho.1 ho.2).mono fun e w' ⟨he, g⟩ => ⟨he, H.quiet g⟩
theorem jall_o {A : Nat} {t : Tr} {T : TB} (ht : IsTrie A t T) (hcn : t.count < 1000000) {V w : World} {L : List Thing} (H : Own V w L) (hm : treeT T ∈ L) {k : Nat} {l : List (List Bool × Int)} (hl : t.all [] = l) (hk : l.length = k) :
    Calls Try.prog 14 #[.pointer (some ⟨A, 0, none⟩)] w fun e w' => ∃ A' c', e = .returned (.slice A' k c') ∧ Own V w' (rowI (.slice A' k c') k l :: L) :=
  (jall_c ht hcn (H.tree hm) H).mono fun e w' ⟨A', n', c', he, _, h2, H2⟩ => by
    rw [hl, hk] at h2
    subst h2
    rw [hl] at H2
    exact ⟨A', c', he, H2⟩
theorem jlongest_o {key : ByteArray} (hk : key.size < 1000000) {A : Nat} {t : Tr} {T : TB} (ht : IsTrie A t T) {V w : World} {L : List Thing} (H : Own V w L) (hm : treeT T ∈ L) {n x : Int} {is : Bool} (ho : numJ (t.longest (bitL key)) = n ∧ valJ (t.longest (bitL key)) = x ∧ (t.longest (bitL key)).isSome = is) :
    Calls Try.prog 11 #[.pointer (some ⟨A, 0, none⟩), .string key] w fun e w' => e = .returned (.tuple #[.int .i64 n, .int .i64 x, .bool is]) ∧ Own V w' L :=
  (jlongest_c key hk ht (H.tree hm) rfl).mono fun e w' ⟨he, g⟩ => ⟨by rw [he, ← ho.1, ← ho.2.1, ← ho.2.2]; rfl, H.quiet g⟩
theorem jlen_o {A : Nat} {t : Tr} {T : TB} (ht : IsTrie A t T) {V w : World} {L : List Thing} (H : Own V w L) (hm : treeT T ∈ L) {k : Nat} (hk : t.count = k) :
    Calls Try.prog 10 #[.pointer (some ⟨A, 0, none⟩)] w fun e w' => e = .returned (.int .i64 (k : Int)) ∧ Own V w' L :=
  (jlen_c ht (H.tree hm)).mono fun e w' ⟨he, g⟩ => ⟨by rw [he, hk], H.quiet g⟩
theorem jget_o {key : ByteArray} {n : Int} (hk : key.size < 1000000) (n0 : -9223372036854775808 ≤ n) (n1 : n ≤ 9223372036854775807) {A : Nat} {t : Tr} {T : TB} (ht : IsTrie A t T) {V w : World} {L : List Thing} (H : Own V w L) (hm : treeT T ∈ L) {x : Int} {is : Bool} (ho : (getK t key n).getD 0 = x ∧ (getK t key n).isSome = is) :
    Calls Try.prog 13 #[.pointer (some ⟨A, 0, none⟩), .string key, .int .i64 n] w fun e w' => e = .returned (.tuple #[.int .i64 x, .bool is]) ∧ Own V w' L :=
  (jget_g hk n0 n1 ht (H.tree hm) rfl).mono fun e w' ⟨he, g⟩ => ⟨by rw [he, ← ho.1, ← ho.2]; rfl, H.quiet g⟩
theorem jcopy_o {A : Nat} {t : Tr} {T : TB} (ht : IsTrie A t T) {V w : World} {L : List Thing} (H : Own V w L) (hm : treeT T ∈ L) :
    Calls Try.prog 15 #[.pointer (some ⟨A, 0, none⟩)] w fun e w' => ∃ B T', e = .returned (.pointer (some ⟨B, 0, none⟩)) ∧ IsTrie B t T' ∧ Own V w' (treeT T' :: L) :=
  (jcopy_c ht (H.tree hm) (Own.nil (Wider.refl w))).mono fun e w' ⟨B, T', he, ht', K⟩ => ⟨B, T', he, ht', H.beside K⟩
theorem jputbad_o {key : ByteArray} {n c : Int} (hk : key.size < 1000000) (n0 : -9223372036854775808 ≤ n ∧ n ≤ 9223372036854775807) (hc : checkN key n = c ∧ c ≠ 0) (x : Int) {A : Nat} {V w : World} {L : List Thing} (H : Own V w L) :
    Calls Try.prog 9 #[.pointer (some ⟨A, 0, none⟩), .string key, .int .i64 n, .int .i64 x] w fun e w' => e = .returned (.int .i64 c) ∧ Own V w' L :=
  (jput_bad hk n0.1 n0.2 hc.1 hc.2 x).mono fun e w' ⟨he, g⟩ => ⟨he, H.quiet g⟩
theorem jget_w {key : ByteArray} {n : Int} (hk : key.size < 1000000) (n0 : -9223372036854775808 ≤ n ∧ n ≤ 9223372036854775807) {A : Nat} {t : Tr} {T : TB} (ht : IsTrie A t T) {w : World} (h : T.At w) {x : Int} {is : Bool} (ho : (getK t key n).getD 0 = x ∧ (getK t key n).isSome = is) :
    Calls Try.prog 13 #[.pointer (some ⟨A, 0, none⟩), .string key, .int .i64 n] w fun e w' => e = .returned (.tuple #[.int .i64 x, .bool is]) ∧ Wider w w' :=
  (jget_g hk n0.1 n0.2 ht h rfl).mono fun e w' ⟨he, g⟩ => ⟨by rw [he, ← ho.1, ← ho.2]; rfl, g⟩
theorem jlongest_w {key : ByteArray} (hk : key.size < 1000000) {A : Nat} {t : Tr} {T : TB} (ht : IsTrie A t T) {w : World} (h : T.At w) {n x : Int} {is : Bool} (ho : numJ (t.longest (bitL key)) = n ∧ valJ (t.longest (bitL key)) = x ∧ (t.longest (bitL key)).isSome = is) :
    Calls Try.prog 11 #[.pointer (some ⟨A, 0, none⟩), .string key] w fun e w' => e = .returned (.tuple #[.int .i64 n, .int .i64 x, .bool is]) ∧ Wider w w' :=
  (jlongest_c key hk ht h rfl).mono fun e w' ⟨he, g⟩ => ⟨by rw [he, ← ho.1, ← ho.2.1, ← ho.2.2]; rfl, g⟩
/-- What is said of all items of a trie. -/
theorem all_item {A : Nat} {t : Tr} {T : TB} (ht : IsTrie A t T) {k : Nat} {x : List Bool × Int} (hx : (t.all [])[k]? = some x) : x.1.length ≤ 256 ∧ t.get x.1 = some x.2 := by
  obtain ⟨bs, e, hg⟩ := (Tr.mem_all t [] x.1 x.2).1 (List.mem_of_getElem? hx)
  rw [List.nil_append] at e
  rw [e]
  refine ⟨?_, hg⟩
  rcases Nat.lt_or_ge 256 bs.length with c | c
  · have := Tr.lim_get _ 257 bs ht.lim (by omega)
    rw [ht.get, hg] at this; cases this
  · exact c
theorem getK_key {t : Tr} {p : List Bool} (hp : p.length ≤ 256) : getK t (keyJ p) (p.length : Int) = t.get p := by
  unfold getK
  rw [if_pos (checkN_ok (keyJ_is hp)), bitsK_key (keyJ_is hp) rfl]
theorem putK_key {t : Tr} {p : List Bool} (hp : p.length ≤ 256) (x : Int) : putK t (keyJ p) (p.length : Int) x = t.put p x := by
  unfold putK
  rw [if_pos (checkN_ok (keyJ_is hp)), bitsK_key (keyJ_is hp) rfl]
theorem delK_key {t : Tr} {p : List Bool} (hp : p.length ≤ 256) : delK t (keyJ p) (p.length : Int) = t.del p := by
  unfold delK
  rw [if_pos (checkN_ok (keyJ_is hp)), bitsK_key (keyJ_is hp) rfl]
theorem longest_key {t : Tr} {p : List Bool} {v : Int} (hp : p.length ≤ 256) (hg : t.get p = some v) : ∃ n x, t.longest (bitL (keyJ p)) = some (n, x) ∧ p.length ≤ n ∧ n ≤ 8 * (keyJ p).size ∧ (n = p.length → x = v) := by
  have kt := (keyJ_is hp).take
  have kl := (keyJ_is hp).long
  cases e : t.longest (bitL (keyJ p)) with
  | none =>
    have := Tr.longest_some.longest_none t _ e p.length (by rw [bitL_length]; exact kl)
    rw [kt, hg] at this; cases this
  | some y =>
    obtain ⟨q1, q2, q3⟩ := Tr.longest_some t _ y.1 y.2 e
    rw [bitL_length] at q1
    refine ⟨y.1, y.2, rfl, ?_, q1, fun h => ?_⟩
    · rcases Nat.lt_or_ge y.1 p.length with c | c
      · have := q3 p.length c (by rw [bitL_length]; exact kl)
        rw [kt, hg] at this; cases this
      · exact c
    · rw [h, kt, hg] at q2
      injection q2 with q2
      exact q2.symm
theorem Own.itemM {V w : World} {L : List Thing} (H : Own V w L) {A : Option Addr} {n c : Nat} {l : List (List Bool × Int)} (m : rowI (.slice A n c) n l ∈ L) {j : Nat} {x : List Bool × Int} (hx : l[j]? = some x) : ∃ a, A = some a ∧ ItemAt w (a.add (j * 3)) x := by
  refine Own.item (V := V) (R := []) (A := A) (n := n) (c := c) (l := l) ⟨fun r hr => ?_, fun r hr => ?_, List.pairwise_singleton _ _, fun r hr => ?_, H.wider⟩ hx
  · obtain rfl := List.mem_singleton.1 hr; exact H.holds _ m
  · obtain rfl := List.mem_singleton.1 hr; exact H.new _ m
  · obtain rfl := List.mem_singleton.1 hr; exact H.stable _ m
/-- Two rows of the same items. -/
theorem jsame_o {V w : World} {L : List Thing} (H : Own V w L) {A B : Option Addr} {n c c2 : Nat} {l : List (List Bool × Int)} (h1 : rowI (.slice A n c) n l ∈ L) (h2 : rowI (.slice B n c2) n l ∈ L) (hl : l.length = n ∧ n < 1000000) :
    Calls Try.prog 19 #[.slice A n c, .slice B n c2] w fun e w' => e = .returned (.bool true) ∧ Own V w' L := by
  have one : ∀ (A : Option Addr) (c : Nat), rowI (.slice A n c) n l ∈ L → ∀ j x, l[j]? = some x → ∃ a, A = some a ∧ ItemAt w (a.add (j * 3)) x := fun A3 c3 m j x hx => by
    refine Own.item (V := V) (R := []) (A := A3) (n := n) (c := c3) (l := l) ⟨fun r hr => ?_, fun r hr => ?_, List.pairwise_singleton _ _, fun r hr => ?_, H.wider⟩ hx
    · obtain rfl := List.mem_singleton.1 hr; exact H.holds _ m
    · obtain rfl := List.mem_singleton.1 hr; exact H.new _ m
    · obtain rfl := List.mem_singleton.1 hr; exact H.stable _ m
  exact (jsame_c (V := V) (R := []) (one _ _ h1) (one _ _ h2) hl.1 rfl hl.2).mono fun e w' ⟨he, g⟩ => ⟨he, H.quiet g⟩
end Go.Proofs.Ytjnccpbedffijaa
