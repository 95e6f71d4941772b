/- Texts that belong together, one behind the other: OPart ONum OSmall OText ORec ORecG. -/
import Derived.Test.YtilpimilbjcifaaGreatDoorMathG
import Derived.Test.YtilpimilbjcifaaGreatDoorOHelp
import Derived.Test.YtilpimilbjcifaaGreatDoorTCodeH
import Derived.Laws.EntriesVeiled
import Derived.Laws.OwnMore
import Derived.Shelf.Abstract
import Derived.StillTailTactics
import Derived.Test.YtilpimilbjcifaaGreatDoorQuiet

/- Parts of objects, package obj: function values that put and get; what is said of them. -/
namespace Go.Proofs.YtilpimilbjcifaaGreatDoor
set_option linter.unusedVariables false
set_option maxRecDepth 20000
open Go.ChangeShapes Go.WideShapes Go.ChangeAt Go.RowKit Go.Joins
open Go.ChangeMaps (open_string shut_string)

/-- What is put of a value: its text, or an error. -/
def PutR {β : Type} (c : Cod β) (x : β) (T : ByteArray) (r : Nat) : Prop := (c.ok x ∧ T = c.enc x ∧ r = 0) ∨ (¬ c.ok x ∧ T = ⟨#[]⟩ ∧ r = 3)
/-- .. of a tuple. -/
def PutG {β : Type} (cs : List (Cod β)) (xs : List β) (T : ByteArray) (r : Nat) : Prop := (okG cs xs ∧ T = encG cs xs ∧ r = 0) ∨ (¬ okG cs xs ∧ T = ⟨#[]⟩ ∧ r = 3)
/-- The two function values of a part. -/
structure FnP where
  pf : FuncId
  pc : Array Value
  gf : FuncId
  gc : Array Value
/-- The one tells a text and an error, and turns nothing. -/
def Puts (W : World) (x : FnP) (T : ByteArray) (r : Nat) : Prop :=
  Enters Tryz.prog x.pf ∧ ∀ w, Wider W w → Calls Tryz.prog x.pf x.pc w fun e w' => e = .returned (.tuple #[.string T, .int .i64 (r : Int)]) ∧ Wider w w'
/-- How a value lies in a cell of a block. -/
abbrev Rel (β : Type) := Nat → World → Value → β → Prop
/-- It hangs on no cell of that block. -/
def RelS {β : Type} (R : Rel β) : Prop := ∀ B W w u x, WBut [B] W w → R B W u x → R B w u x
/-- What has been made from block b0 on is as it was. -/
def Keeps (b0 : Nat) (W w : World) : Prop := W.heap.size ≤ w.heap.size ∧ ∀ i, b0 ≤ i → i < W.heap.size → w.heap[i]? = W.heap[i]?
theorem Keeps.refl (b0 : Nat) (W : World) : Keeps b0 W W := ⟨Nat.le_refl _, fun i _ _ => rfl⟩
theorem Keeps.trans {b0 : Nat} {a b c : World} (h : Keeps b0 a b) (k : Keeps b0 b c) : Keeps b0 a c :=
  ⟨Nat.le_trans h.1 k.1, fun i hi hl => (k.2 i hi (Nat.lt_of_lt_of_le hl h.1)).trans (h.2 i hi hl)⟩
theorem Keeps.less {b0 b1 : Nat} {W w : World} (h : Keeps b0 W w) (hb : b0 ≤ b1) : Keeps b1 W w := ⟨h.1, fun i hi hl => h.2 i (Nat.le_trans hb hi) hl⟩
theorem _root_.Go.Proofs.YtilpimilbjcifaaGreatDoor.Wider.keeps {W w : World} (g : Wider W w) (b0 : Nat) : Keeps b0 W w := ⟨g.2, fun i _ hl => wheap g hl⟩
theorem WBut.keeps {B b0 : Nat} {W w : World} (g : WBut [B] W w) (h : B < b0) : Keeps b0 W w := ⟨g.size, fun i hi hl => g.heap i hl (by simp; omega)⟩
theorem keeps_set {B j b0 : Nat} {v : Value} (W : World) (h : B < b0) : Keeps b0 W (W.setCell ⟨B, j, none⟩ v) := (setCell_but W ⟨B, j, none⟩ v).keeps h
/-- What a closure has captured stays. -/
theorem keep_blk {K b0 : Nat} {W w : World} {C : Array Value} {t : TypeId} (h : W.heap[K]? = some (.cells C t (0, 0))) (g : Keeps b0 W w) (hb : b0 ≤ K) : w.heap[K]? = some (.cells C t (0, 0)) := by
  rw [g.2 K hb (Array.getElem?_eq_some_iff.1 h).1]; exact h
/-- The other one reads a text into the cell q. -/
def Gets {β : Type} (b0 : Nat) (W : World) (x : FnP) (q : Addr) (c : Cod β) (R : Rel β) : Prop :=
  Enters Tryz.prog x.gf ∧ ∀ B j, q = ⟨B, j, none⟩ → B < b0 → ∀ w C t, Keeps b0 W w → w.heap[B]? = some (.cells C t (0, 0)) → j < C.size → ∀ s : ByteArray, s.size < 1000000 →
    (∀ y, c.dec s = some y → Calls Tryz.prog x.gf (#[.string s] ++ x.gc) w fun e w' => e = .returned (.int .i64 0) ∧ WBut [B] w w' ∧ ∃ u, R B w' u y ∧ w'.heap[B]? = some (.cells (C.setIfInBounds j u) t (0, 0))) ∧
    (c.dec s = none → Calls Tryz.prog x.gf (#[.string s] ++ x.gc) w fun e w' => ∃ r : Nat, e = .returned (.int .i64 (r : Int)) ∧ r ≠ 0 ∧ WBut [B] w w')
theorem Puts.on {W w : World} {x : FnP} {T : ByteArray} {r : Nat} (h : Puts W x T r) (g : Wider W w) : Puts w x T r := ⟨h.1, fun w2 g2 => h.2 w2 (g.trans g2)⟩
theorem Gets.on {β : Type} {b0 b1 : Nat} {W w : World} {x : FnP} {q : Addr} {c : Cod β} {R : Rel β} (h : Gets b1 W x q c R) (g : Keeps b1 W w) (hb : b0 ≤ b1) : Gets b0 w x q c R :=
  ⟨h.1, fun B j hq hB w2 C t g2 => h.2 B j hq (Nat.lt_of_lt_of_le hB hb) w2 C t (g.trans (g2.less hb))⟩
/-- What a closure has captured stays. -/
theorem but_blk {B K : Nat} {W w : World} {C : Array Value} {t : TypeId} (h : W.heap[K]? = some (.cells C t (0, 0))) (g : WBut [B] W w) (hne : K ≠ B) : w.heap[K]? = some (.cells C t (0, 0)) := by
  have hl : K < W.heap.size := (Array.getElem?_eq_some_iff.1 h).1
  rw [g.heap K hl (by simpa using hne)]; exact h
theorem wide_blk {K : Nat} {W w : World} {C : Array Value} {t : TypeId} (h : W.heap[K]? = some (.cells C t (0, 0))) (g : Wider W w) : w.heap[K]? = some (.cells C t (0, 0)) := by
  have hl : K < W.heap.size := (Array.getElem?_eq_some_iff.1 h).1
  rw [wheap g hl]; exact h
theorem set_blk {B j : Nat} {w : World} {C : Array Value} {t : TypeId} (v : Value) (h : w.heap[B]? = some (.cells C t (0, 0))) : (w.setCell ⟨B, j, none⟩ v).heap[B]? = some (.cells (C.setIfInBounds j v) t (0, 0)) := by
  simp only [World.setCell, Array.getElem?_modify, if_true]
  rw [h]; rfl
theorem blk_some {w : World} {B j : Nat} {C : Array Value} {t : TypeId} (h : w.heap[B]? = some (.cells C t (0, 0))) (hj : j < C.size) : ∃ v, w.cell? ⟨B, j, none⟩ = some v :=
  ⟨C[j], blk_cell h j (Array.getElem?_eq_getElem hj)⟩

/-! ### Numbers -/
theorem wrap_u64 (n : Int) (h : 0 ≤ n) (h1 : n < 18446744073709551616) : IntKind.u64.wrap n = n := by simp [IntKind.wrap, IntKind.bits, IntKind.signed]; omega
theorem wrap_u64_neg (n : Int) (h : n < 0) (h1 : -9223372036854775808 ≤ n) : IntKind.u64.wrap n = n + 18446744073709551616 := by simp [IntKind.wrap, IntKind.bits, IntKind.signed]; omega
theorem mk_func : ∀ (fn : Fn) (first cap : Array Value) (w : World), (Instr.makeFunc fn first cap).run Tryz.prog w = .ok (.func fn first cap) w := fun _ _ _ _ => rfl
theorem tnum_i (x : Int) (w : World) (h0 : 0 ≤ x) (h1 : x < 18446744073709551616) {T : ByteArray} (hT : mkB (numB x.toNat) = T) :
    Calls Tryz.prog 110 #[.int .u64 x] w fun e w' => e = .returned (.string T) ∧ Wider w w' := by
  obtain ⟨y, rfl⟩ : ∃ y : Nat, x = (y : Int) := ⟨x.toNat, by omega⟩
  rw [Int.toNat_natCast] at hT
  exact tnum_a y w (by omega) hT
theorem treadnum_i (s : ByteArray) (top : Nat) (M : Int) (hM : M = (top : Int)) (w : World) (hs : s.size < 1000000) (hm : top < 18446744073709551616) {v r : Nat} (hr : rnumN s.data.toList top = (v, r)) :
    Calls Tryz.prog 122 #[.string s, .int .u64 M] w fun e w' => e = .returned (.tuple #[.int .u64 (v : Int), .int .i64 (r : Int)]) ∧ Wider w w' := by
  subst hM; exact treadnum_a s top w hs hm hr
/-- How a number lies in a cell. -/
def relN (k : IntKind) : Rel Int := fun _ _ u x => u = .int k x
end Go.Proofs.YtilpimilbjcifaaGreatDoor

/- Package obj's numbers: the function values that number hands back, by walks. -/
namespace Go.Proofs.YtilpimilbjcifaaGreatDoor
set_option linter.unusedVariables false
set_option maxRecDepth 20000
open Go.ChangeShapes Go.WideShapes Go.ChangeAt Go.RowKit Go.Joins
open Go.ChangeMaps (open_string shut_string)

set_option maxHeartbeats 2000000 in
theorem nput_int {w : World} {X M : Nat} {q : Addr} {top : Nat} (hx : w.heap[X]? = some (.cells #[.pointer (some q)] 213 (0, 0))) (hm : w.heap[M]? = some (.cells #[.int .u64 (top : Int)] 28 (0, 0))) (ht : top < 9223372036854775808) {n : Int} (wn : (Lit.int .i64 n).wf = true) (hc : w.cell? q = some (.int .i64 n)) {T : ByteArray} {r : Nat} (hr : PutR (numC top (by omega)) n T r) :
    Calls Tryz.prog 202 #[.pointer (some ⟨X, 0, none⟩), .pointer (some ⟨M, 0, none⟩)] w fun e w' => e = .returned (.tuple #[.string T, .int .i64 (r : Int)]) ∧ Wider w w' := by
  have b := bnd_i64 wn
  have c1 := blk_cell hx 0 (v := .pointer (some q)) rfl
  have c2 := blk_cell hm 0 (v := .int .u64 (top : Int)) rfl
  rcases hr with ⟨⟨l0, l1⟩, rfl, rfl⟩ | ⟨hno, rfl, rfl⟩
  · have w1 := wrap_u64 n l0 (by omega)
    have d1 : decide ((top : Int) < n) = false := decide_eq_false (by omega)
    have zn := fun W : World => tnum_i n W l0 (by omega) (T := (numC top (by omega)).enc n) rfl
    obtain ⟨T, hT⟩ : ∃ T, (numC top (by omega)).enc n = T := ⟨_, rfl⟩
    rw [hT] at zn ⊢
    clear hT hx hm wn
    go_enter Tryz.func202, Tryz.ntmps202
    go_wp2_with (first
      | (go_at_call 110; ((with_reducible refine (zn _).mono ?_); rintro e w1 ⟨rfl, g1⟩)))
    go_ret2
    exact ⟨rfl, g1⟩
  · obtain ⟨u, hu, hlt⟩ : ∃ u, IntKind.u64.wrap n = u ∧ (top : Int) < u := by
      by_cases c : n < 0
      · exact ⟨_, wrap_u64_neg n c (by omega), by omega⟩
      · refine ⟨n, wrap_u64 n (by omega) (by omega), ?_⟩
        rcases Int.lt_or_le (top : Int) n with q | q
        · exact q
        · exact absurd ⟨by omega, q⟩ hno
    have d1 : decide ((top : Int) < u) = true := decide_eq_true hlt
    clear hx hm wn hno
    go_enter Tryz.func202, Tryz.ntmps202
    go_wp2
    go_ret2
    exact ⟨rfl, Wider.refl _⟩
set_option maxHeartbeats 2000000 in
theorem nget_int {w : World} {X M B j : Nat} {top : Nat} {C : Array Value} {t : TypeId} (hx : w.heap[X]? = some (.cells #[.pointer (some ⟨B, j, none⟩)] 213 (0, 0))) (hm : w.heap[M]? = some (.cells #[.int .u64 (top : Int)] 28 (0, 0))) (ht : top ≤ 9223372036854775807) (hB : w.heap[B]? = some (.cells C t (0, 0))) (hj : j < C.size) (s : ByteArray) (hs : s.size < 1000000) {v r : Nat} (hr : rnumN s.data.toList top = (v, r)) :
    Calls Tryz.prog 203 #[.string s, .pointer (some ⟨M, 0, none⟩), .pointer (some ⟨X, 0, none⟩)] w fun e w' => e = .returned (.int .i64 (r : Int)) ∧ WBut [B] w w' ∧ w'.heap[B]? = some (.cells (C.setIfInBounds j (.int .i64 (v : Int))) t (0, 0)) := by
  have c2 := blk_cell hm 0 (v := .int .u64 (top : Int)) rfl
  have zr := fun W : World => treadnum_a s top W hs (by omega) hr
  have hv : v ≤ top := by
    rcases rnum_codes s.data.toList top with q | q
    · rw [hr] at q
      have q : r = 0 := q
      subst q
      exact (rnum_inv _ _ _ hr).1
    · rw [hr] at q
      injection q with q _
      omega
  have w1 : IntKind.i64.wrap (v : Int) = (v : Int) := by simp [IntKind.wrap, IntKind.bits, IntKind.signed]; omega
  obtain ⟨old, hold⟩ := blk_some hB hj
  clear hr
  go_enter Tryz.func203, Tryz.ntmps203
  go_wp2_with (first
    | (go_at_call 122; ((with_reducible refine (zr _).mono ?_); rintro e w1 ⟨rfl, g1⟩; have c3 := blk_cell (wide_blk hx g1) 0 (v := .pointer (some ⟨B, j, none⟩)) rfl; have hB1 := wide_blk hB g1; have c4 := wkeep g1 hold; have f4 := blk_free hB1 j)))
  go_ret
  exact ⟨rfl, wider_but g1 (setCell_but _ ⟨B, j, none⟩ _), set_blk _ hB1⟩
theorem num_int (w : World) (q : Addr) (top : Nat) (M : Int) (hM : M = (top : Int)) :
    Calls Tryz.prog 183 #[.pointer (some q), .int .u64 M] w fun e w' => ∃ X Y, e = .returned (.agg #[.func (.func 202) #[] #[.pointer (some ⟨X, 0, none⟩), .pointer (some ⟨Y, 0, none⟩)], .func (.func 203) #[] #[.pointer (some ⟨Y, 0, none⟩), .pointer (some ⟨X, 0, none⟩)]]) ∧ Wider w w' ∧ w.heap.size ≤ X ∧ w.heap.size ≤ Y ∧ w'.heap[X]? = some (.cells #[.pointer (some q)] 213 (0, 0)) ∧ w'.heap[Y]? = some (.cells #[.int .u64 (top : Int)] 28 (0, 0)) := by
  subst hM
  have hmf := mk_func
  have H := (((Own.nil (Wider.refl w)).blk #[.pointer (some q)] 213).blk #[.int .u64 (top : Int)] 28).blk #[.func (.func 202) #[] #[.pointer (some ⟨w.heap.size, 0, none⟩), .pointer (some ⟨w.heap.size + 1, 0, none⟩)], .func (.func 203) #[] #[.pointer (some ⟨w.heap.size + 1, 0, none⟩), .pointer (some ⟨w.heap.size, 0, none⟩)]] 200
  have z1 : (w.alloc (.cells #[.pointer (some q)] 213)).heap.size = w.heap.size + 1 := by simp
  rw [z1] at H
  clear z1
  go_enter Tryz.func183, Tryz.ntmps183
  go_wp2
  simp [bodyPost, results, Tryz.results183, go_sem]
  exact ⟨w.heap.size, w.heap.size + 1, by simp, H.wider, by omega, by omega, H.drop.drop.head, H.drop.head⟩
set_option maxHeartbeats 2000000 in
theorem nput_int64 {w : World} {X M : Nat} {q : Addr} {top : Nat} (hx : w.heap[X]? = some (.cells #[.pointer (some q)] 227 (0, 0))) (hm : w.heap[M]? = some (.cells #[.int .u64 (top : Int)] 28 (0, 0))) (ht : top < 9223372036854775808) {n : Int} (wn : (Lit.int .i64 n).wf = true) (hc : w.cell? q = some (.int .i64 n)) {T : ByteArray} {r : Nat} (hr : PutR (numC top (by omega)) n T r) :
    Calls Tryz.prog 210 #[.pointer (some ⟨X, 0, none⟩), .pointer (some ⟨M, 0, none⟩)] w fun e w' => e = .returned (.tuple #[.string T, .int .i64 (r : Int)]) ∧ Wider w w' := by
  have b := bnd_i64 wn
  have c1 := blk_cell hx 0 (v := .pointer (some q)) rfl
  have c2 := blk_cell hm 0 (v := .int .u64 (top : Int)) rfl
  rcases hr with ⟨⟨l0, l1⟩, rfl, rfl⟩ | ⟨hno, rfl, rfl⟩
  · have w1 := wrap_u64 n l0 (by omega)
    have d1 : decide ((top : Int) < n) = false := decide_eq_false (by omega)
    have zn := fun W : World => tnum_i n W l0 (by omega) (T := (numC top (by omega)).enc n) rfl
    obtain ⟨T, hT⟩ : ∃ T, (numC top (by omega)).enc n = T := ⟨_, rfl⟩
    rw [hT] at zn ⊢
    clear hT hx hm wn
    go_enter Tryz.func210, Tryz.ntmps210
    go_wp2_with (first
      | (go_at_call 110; ((with_reducible refine (zn _).mono ?_); rintro e w1 ⟨rfl, g1⟩)))
    go_ret2
    exact ⟨rfl, g1⟩
  · obtain ⟨u, hu, hlt⟩ : ∃ u, IntKind.u64.wrap n = u ∧ (top : Int) < u := by
      by_cases c : n < 0
      · exact ⟨_, wrap_u64_neg n c (by omega), by omega⟩
      · refine ⟨n, wrap_u64 n (by omega) (by omega), ?_⟩
        rcases Int.lt_or_le (top : Int) n with q | q
        · exact q
        · exact absurd ⟨by omega, q⟩ hno
    have d1 : decide ((top : Int) < u) = true := decide_eq_true hlt
    clear hx hm wn hno
    go_enter Tryz.func210, Tryz.ntmps210
    go_wp2
    go_ret2
    exact ⟨rfl, Wider.refl _⟩
set_option maxHeartbeats 2000000 in
theorem nget_int64 {w : World} {X M B j : Nat} {top : Nat} {C : Array Value} {t : TypeId} (hx : w.heap[X]? = some (.cells #[.pointer (some ⟨B, j, none⟩)] 227 (0, 0))) (hm : w.heap[M]? = some (.cells #[.int .u64 (top : Int)] 28 (0, 0))) (ht : top ≤ 9223372036854775807) (hB : w.heap[B]? = some (.cells C t (0, 0))) (hj : j < C.size) (s : ByteArray) (hs : s.size < 1000000) {v r : Nat} (hr : rnumN s.data.toList top = (v, r)) :
    Calls Tryz.prog 211 #[.string s, .pointer (some ⟨M, 0, none⟩), .pointer (some ⟨X, 0, none⟩)] w fun e w' => e = .returned (.int .i64 (r : Int)) ∧ WBut [B] w w' ∧ w'.heap[B]? = some (.cells (C.setIfInBounds j (.int .i64 (v : Int))) t (0, 0)) := by
  have c2 := blk_cell hm 0 (v := .int .u64 (top : Int)) rfl
  have zr := fun W : World => treadnum_a s top W hs (by omega) hr
  have hv : v ≤ top := by
    rcases rnum_codes s.data.toList top with q | q
    · rw [hr] at q
      have q : r = 0 := q
      subst q
      exact (rnum_inv _ _ _ hr).1
    · rw [hr] at q
      injection q with q _
      omega
  have w1 : IntKind.i64.wrap (v : Int) = (v : Int) := by simp [IntKind.wrap, IntKind.bits, IntKind.signed]; omega
  obtain ⟨old, hold⟩ := blk_some hB hj
  clear hr
  go_enter Tryz.func211, Tryz.ntmps211
  go_wp2_with (first
    | (go_at_call 122; ((with_reducible refine (zr _).mono ?_); rintro e w1 ⟨rfl, g1⟩; have c3 := blk_cell (wide_blk hx g1) 0 (v := .pointer (some ⟨B, j, none⟩)) rfl; have hB1 := wide_blk hB g1; have c4 := wkeep g1 hold; have f4 := blk_free hB1 j)))
  go_ret
  exact ⟨rfl, wider_but g1 (setCell_but _ ⟨B, j, none⟩ _), set_blk _ hB1⟩
theorem num_int64 (w : World) (q : Addr) (top : Nat) (M : Int) (hM : M = (top : Int)) :
    Calls Tryz.prog 195 #[.pointer (some q), .int .u64 M] w fun e w' => ∃ X Y, e = .returned (.agg #[.func (.func 210) #[] #[.pointer (some ⟨X, 0, none⟩), .pointer (some ⟨Y, 0, none⟩)], .func (.func 211) #[] #[.pointer (some ⟨Y, 0, none⟩), .pointer (some ⟨X, 0, none⟩)]]) ∧ Wider w w' ∧ w.heap.size ≤ X ∧ w.heap.size ≤ Y ∧ w'.heap[X]? = some (.cells #[.pointer (some q)] 227 (0, 0)) ∧ w'.heap[Y]? = some (.cells #[.int .u64 (top : Int)] 28 (0, 0)) := by
  subst hM
  have hmf := mk_func
  have H := (((Own.nil (Wider.refl w)).blk #[.pointer (some q)] 227).blk #[.int .u64 (top : Int)] 28).blk #[.func (.func 210) #[] #[.pointer (some ⟨w.heap.size, 0, none⟩), .pointer (some ⟨w.heap.size + 1, 0, none⟩)], .func (.func 211) #[] #[.pointer (some ⟨w.heap.size + 1, 0, none⟩), .pointer (some ⟨w.heap.size, 0, none⟩)]] 200
  have z1 : (w.alloc (.cells #[.pointer (some q)] 227)).heap.size = w.heap.size + 1 := by simp
  rw [z1] at H
  clear z1
  go_enter Tryz.func195, Tryz.ntmps195
  go_wp2
  simp [bodyPost, results, Tryz.results195, go_sem]
  exact ⟨w.heap.size, w.heap.size + 1, by simp, H.wider, by omega, by omega, H.drop.drop.head, H.drop.head⟩
set_option maxHeartbeats 2000000 in
theorem nput_uint8 {w : World} {X M : Nat} {q : Addr} {top : Nat} (hx : w.heap[X]? = some (.cells #[.pointer (some q)] 218 (0, 0))) (hm : w.heap[M]? = some (.cells #[.int .u64 (top : Int)] 28 (0, 0))) (ht : top < 18446744073709551616) {n : Int} (wn : (Lit.int .u8 n).wf = true) (hc : w.cell? q = some (.int .u8 n)) {T : ByteArray} {r : Nat} (hr : PutR (numC top (by omega)) n T r) :
    Calls Tryz.prog 206 #[.pointer (some ⟨X, 0, none⟩), .pointer (some ⟨M, 0, none⟩)] w fun e w' => e = .returned (.tuple #[.string T, .int .i64 (r : Int)]) ∧ Wider w w' := by
  have b := bnd_u8 wn
  have c1 := blk_cell hx 0 (v := .pointer (some q)) rfl
  have c2 := blk_cell hm 0 (v := .int .u64 (top : Int)) rfl
  rcases hr with ⟨⟨l0, l1⟩, rfl, rfl⟩ | ⟨hno, rfl, rfl⟩
  · have w1 := wrap_u64 n l0 (by omega)
    have d1 : decide ((top : Int) < n) = false := decide_eq_false (by omega)
    have zn := fun W : World => tnum_i n W l0 (by omega) (T := (numC top (by omega)).enc n) rfl
    obtain ⟨T, hT⟩ : ∃ T, (numC top (by omega)).enc n = T := ⟨_, rfl⟩
    rw [hT] at zn ⊢
    clear hT hx hm wn
    go_enter Tryz.func206, Tryz.ntmps206
    go_wp2_with (first
      | (go_at_call 110; ((with_reducible refine (zn _).mono ?_); rintro e w1 ⟨rfl, g1⟩)))
    go_ret2
    exact ⟨rfl, g1⟩
  · obtain ⟨u, hu, hlt⟩ : ∃ u, IntKind.u64.wrap n = u ∧ (top : Int) < u := by
      refine ⟨n, wrap_u64 n (by omega) (by omega), ?_⟩
      rcases Int.lt_or_le (top : Int) n with q | q
      · exact q
      · exact absurd ⟨by omega, q⟩ hno
    have d1 : decide ((top : Int) < u) = true := decide_eq_true hlt
    clear hx hm wn hno
    go_enter Tryz.func206, Tryz.ntmps206
    go_wp2
    go_ret2
    exact ⟨rfl, Wider.refl _⟩
set_option maxHeartbeats 2000000 in
theorem nget_uint8 {w : World} {X M B j : Nat} {top : Nat} {C : Array Value} {t : TypeId} (hx : w.heap[X]? = some (.cells #[.pointer (some ⟨B, j, none⟩)] 218 (0, 0))) (hm : w.heap[M]? = some (.cells #[.int .u64 (top : Int)] 28 (0, 0))) (ht : top ≤ 255) (hB : w.heap[B]? = some (.cells C t (0, 0))) (hj : j < C.size) (s : ByteArray) (hs : s.size < 1000000) {v r : Nat} (hr : rnumN s.data.toList top = (v, r)) :
    Calls Tryz.prog 207 #[.string s, .pointer (some ⟨M, 0, none⟩), .pointer (some ⟨X, 0, none⟩)] w fun e w' => e = .returned (.int .i64 (r : Int)) ∧ WBut [B] w w' ∧ w'.heap[B]? = some (.cells (C.setIfInBounds j (.int .u8 (v : Int))) t (0, 0)) := by
  have c2 := blk_cell hm 0 (v := .int .u64 (top : Int)) rfl
  have zr := fun W : World => treadnum_a s top W hs (by omega) hr
  have hv : v ≤ top := by
    rcases rnum_codes s.data.toList top with q | q
    · rw [hr] at q
      have q : r = 0 := q
      subst q
      exact (rnum_inv _ _ _ hr).1
    · rw [hr] at q
      injection q with q _
      omega
  have w1 : IntKind.u8.wrap (v : Int) = (v : Int) := by simp [IntKind.wrap, IntKind.bits, IntKind.signed]; omega
  obtain ⟨old, hold⟩ := blk_some hB hj
  clear hr
  go_enter Tryz.func207, Tryz.ntmps207
  go_wp2_with (first
    | (go_at_call 122; ((with_reducible refine (zr _).mono ?_); rintro e w1 ⟨rfl, g1⟩; have c3 := blk_cell (wide_blk hx g1) 0 (v := .pointer (some ⟨B, j, none⟩)) rfl; have hB1 := wide_blk hB g1; have c4 := wkeep g1 hold; have f4 := blk_free hB1 j)))
  go_ret
  exact ⟨rfl, wider_but g1 (setCell_but _ ⟨B, j, none⟩ _), set_blk _ hB1⟩
theorem num_uint8 (w : World) (q : Addr) (top : Nat) (M : Int) (hM : M = (top : Int)) :
    Calls Tryz.prog 187 #[.pointer (some q), .int .u64 M] w fun e w' => ∃ X Y, e = .returned (.agg #[.func (.func 206) #[] #[.pointer (some ⟨X, 0, none⟩), .pointer (some ⟨Y, 0, none⟩)], .func (.func 207) #[] #[.pointer (some ⟨Y, 0, none⟩), .pointer (some ⟨X, 0, none⟩)]]) ∧ Wider w w' ∧ w.heap.size ≤ X ∧ w.heap.size ≤ Y ∧ w'.heap[X]? = some (.cells #[.pointer (some q)] 218 (0, 0)) ∧ w'.heap[Y]? = some (.cells #[.int .u64 (top : Int)] 28 (0, 0)) := by
  subst hM
  have hmf := mk_func
  have H := (((Own.nil (Wider.refl w)).blk #[.pointer (some q)] 218).blk #[.int .u64 (top : Int)] 28).blk #[.func (.func 206) #[] #[.pointer (some ⟨w.heap.size, 0, none⟩), .pointer (some ⟨w.heap.size + 1, 0, none⟩)], .func (.func 207) #[] #[.pointer (some ⟨w.heap.size + 1, 0, none⟩), .pointer (some ⟨w.heap.size, 0, none⟩)]] 200
  have z1 : (w.alloc (.cells #[.pointer (some q)] 218)).heap.size = w.heap.size + 1 := by simp
  rw [z1] at H
  clear z1
  go_enter Tryz.func187, Tryz.ntmps187
  go_wp2
  simp [bodyPost, results, Tryz.results187, go_sem]
  exact ⟨w.heap.size, w.heap.size + 1, by simp, H.wider, by omega, by omega, H.drop.drop.head, H.drop.head⟩
set_option maxHeartbeats 2000000 in
theorem nput_uint32 {w : World} {X M : Nat} {q : Addr} {top : Nat} (hx : w.heap[X]? = some (.cells #[.pointer (some q)] 251 (0, 0))) (hm : w.heap[M]? = some (.cells #[.int .u64 (top : Int)] 28 (0, 0))) (ht : top < 18446744073709551616) {n : Int} (wn : (Lit.int .u32 n).wf = true) (hc : w.cell? q = some (.int .u32 n)) {T : ByteArray} {r : Nat} (hr : PutR (numC top (by omega)) n T r) :
    Calls Tryz.prog 204 #[.pointer (some ⟨X, 0, none⟩), .pointer (some ⟨M, 0, none⟩)] w fun e w' => e = .returned (.tuple #[.string T, .int .i64 (r : Int)]) ∧ Wider w w' := by
  have b := bnd_u32 wn
  have c1 := blk_cell hx 0 (v := .pointer (some q)) rfl
  have c2 := blk_cell hm 0 (v := .int .u64 (top : Int)) rfl
  rcases hr with ⟨⟨l0, l1⟩, rfl, rfl⟩ | ⟨hno, rfl, rfl⟩
  · have w1 := wrap_u64 n l0 (by omega)
    have d1 : decide ((top : Int) < n) = false := decide_eq_false (by omega)
    have zn := fun W : World => tnum_i n W l0 (by omega) (T := (numC top (by omega)).enc n) rfl
    obtain ⟨T, hT⟩ : ∃ T, (numC top (by omega)).enc n = T := ⟨_, rfl⟩
    rw [hT] at zn ⊢
    clear hT hx hm wn
    go_enter Tryz.func204, Tryz.ntmps204
    go_wp2_with (first
      | (go_at_call 110; ((with_reducible refine (zn _).mono ?_); rintro e w1 ⟨rfl, g1⟩)))
    go_ret2
    exact ⟨rfl, g1⟩
  · obtain ⟨u, hu, hlt⟩ : ∃ u, IntKind.u64.wrap n = u ∧ (top : Int) < u := by
      refine ⟨n, wrap_u64 n (by omega) (by omega), ?_⟩
      rcases Int.lt_or_le (top : Int) n with q | q
      · exact q
      · exact absurd ⟨by omega, q⟩ hno
    have d1 : decide ((top : Int) < u) = true := decide_eq_true hlt
    clear hx hm wn hno
    go_enter Tryz.func204, Tryz.ntmps204
    go_wp2
    go_ret2
    exact ⟨rfl, Wider.refl _⟩
set_option maxHeartbeats 2000000 in
theorem nget_uint32 {w : World} {X M B j : Nat} {top : Nat} {C : Array Value} {t : TypeId} (hx : w.heap[X]? = some (.cells #[.pointer (some ⟨B, j, none⟩)] 251 (0, 0))) (hm : w.heap[M]? = some (.cells #[.int .u64 (top : Int)] 28 (0, 0))) (ht : top ≤ 4294967295) (hB : w.heap[B]? = some (.cells C t (0, 0))) (hj : j < C.size) (s : ByteArray) (hs : s.size < 1000000) {v r : Nat} (hr : rnumN s.data.toList top = (v, r)) :
    Calls Tryz.prog 205 #[.string s, .pointer (some ⟨M, 0, none⟩), .pointer (some ⟨X, 0, none⟩)] w fun e w' => e = .returned (.int .i64 (r : Int)) ∧ WBut [B] w w' ∧ w'.heap[B]? = some (.cells (C.setIfInBounds j (.int .u32 (v : Int))) t (0, 0)) := by
  have c2 := blk_cell hm 0 (v := .int .u64 (top : Int)) rfl
  have zr := fun W : World => treadnum_a s top W hs (by omega) hr
  have hv : v ≤ top := by
    rcases rnum_codes s.data.toList top with q | q
    · rw [hr] at q
      have q : r = 0 := q
      subst q
      exact (rnum_inv _ _ _ hr).1
    · rw [hr] at q
      injection q with q _
      omega
  have w1 : IntKind.u32.wrap (v : Int) = (v : Int) := by simp [IntKind.wrap, IntKind.bits, IntKind.signed]; omega
  obtain ⟨old, hold⟩ := blk_some hB hj
  clear hr
  go_enter Tryz.func205, Tryz.ntmps205
  go_wp2_with (first
    | (go_at_call 122; ((with_reducible refine (zr _).mono ?_); rintro e w1 ⟨rfl, g1⟩; have c3 := blk_cell (wide_blk hx g1) 0 (v := .pointer (some ⟨B, j, none⟩)) rfl; have hB1 := wide_blk hB g1; have c4 := wkeep g1 hold; have f4 := blk_free hB1 j)))
  go_ret
  exact ⟨rfl, wider_but g1 (setCell_but _ ⟨B, j, none⟩ _), set_blk _ hB1⟩
theorem num_uint32 (w : World) (q : Addr) (top : Nat) (M : Int) (hM : M = (top : Int)) :
    Calls Tryz.prog 186 #[.pointer (some q), .int .u64 M] w fun e w' => ∃ X Y, e = .returned (.agg #[.func (.func 204) #[] #[.pointer (some ⟨X, 0, none⟩), .pointer (some ⟨Y, 0, none⟩)], .func (.func 205) #[] #[.pointer (some ⟨Y, 0, none⟩), .pointer (some ⟨X, 0, none⟩)]]) ∧ Wider w w' ∧ w.heap.size ≤ X ∧ w.heap.size ≤ Y ∧ w'.heap[X]? = some (.cells #[.pointer (some q)] 251 (0, 0)) ∧ w'.heap[Y]? = some (.cells #[.int .u64 (top : Int)] 28 (0, 0)) := by
  subst hM
  have hmf := mk_func
  have H := (((Own.nil (Wider.refl w)).blk #[.pointer (some q)] 251).blk #[.int .u64 (top : Int)] 28).blk #[.func (.func 204) #[] #[.pointer (some ⟨w.heap.size, 0, none⟩), .pointer (some ⟨w.heap.size + 1, 0, none⟩)], .func (.func 205) #[] #[.pointer (some ⟨w.heap.size + 1, 0, none⟩), .pointer (some ⟨w.heap.size, 0, none⟩)]] 200
  have z1 : (w.alloc (.cells #[.pointer (some q)] 251)).heap.size = w.heap.size + 1 := by simp
  rw [z1] at H
  clear z1
  go_enter Tryz.func186, Tryz.ntmps186
  go_wp2
  simp [bodyPost, results, Tryz.results186, go_sem]
  exact ⟨w.heap.size, w.heap.size + 1, by simp, H.wider, by omega, by omega, H.drop.drop.head, H.drop.head⟩
set_option maxHeartbeats 2000000 in
theorem nput_uint64 {w : World} {X M : Nat} {q : Addr} {top : Nat} (hx : w.heap[X]? = some (.cells #[.pointer (some q)] 228 (0, 0))) (hm : w.heap[M]? = some (.cells #[.int .u64 (top : Int)] 28 (0, 0))) (ht : top < 18446744073709551616) {n : Int} (wn : (Lit.int .u64 n).wf = true) (hc : w.cell? q = some (.int .u64 n)) {T : ByteArray} {r : Nat} (hr : PutR (numC top (by omega)) n T r) :
    Calls Tryz.prog 208 #[.pointer (some ⟨X, 0, none⟩), .pointer (some ⟨M, 0, none⟩)] w fun e w' => e = .returned (.tuple #[.string T, .int .i64 (r : Int)]) ∧ Wider w w' := by
  have b := bnd_u64 wn
  have c1 := blk_cell hx 0 (v := .pointer (some q)) rfl
  have c2 := blk_cell hm 0 (v := .int .u64 (top : Int)) rfl
  rcases hr with ⟨⟨l0, l1⟩, rfl, rfl⟩ | ⟨hno, rfl, rfl⟩
  · have w1 := wrap_u64 n l0 (by omega)
    have d1 : decide ((top : Int) < n) = false := decide_eq_false (by omega)
    have zn := fun W : World => tnum_i n W l0 (by omega) (T := (numC top (by omega)).enc n) rfl
    obtain ⟨T, hT⟩ : ∃ T, (numC top (by omega)).enc n = T := ⟨_, rfl⟩
    rw [hT] at zn ⊢
    clear hT hx hm wn
    go_enter Tryz.func208, Tryz.ntmps208
    go_wp2_with (first
      | (go_at_call 110; ((with_reducible refine (zn _).mono ?_); rintro e w1 ⟨rfl, g1⟩)))
    go_ret2
    exact ⟨rfl, g1⟩
  · obtain ⟨u, hu, hlt⟩ : ∃ u, IntKind.u64.wrap n = u ∧ (top : Int) < u := by
      refine ⟨n, wrap_u64 n (by omega) (by omega), ?_⟩
      rcases Int.lt_or_le (top : Int) n with q | q
      · exact q
      · exact absurd ⟨by omega, q⟩ hno
    obtain rfl : u = n := by rw [← hu]; exact (wrap_u64 n (by omega) (by omega))
    have d1 : decide ((top : Int) < u) = true := decide_eq_true hlt
    clear hx hm wn hno
    go_enter Tryz.func208, Tryz.ntmps208
    go_wp2
    go_ret2
    exact ⟨rfl, Wider.refl _⟩
set_option maxHeartbeats 2000000 in
theorem nget_uint64 {w : World} {X M B j : Nat} {top : Nat} {C : Array Value} {t : TypeId} (hx : w.heap[X]? = some (.cells #[.pointer (some ⟨B, j, none⟩)] 228 (0, 0))) (hm : w.heap[M]? = some (.cells #[.int .u64 (top : Int)] 28 (0, 0))) (ht : top ≤ 18446744073709551615) (hB : w.heap[B]? = some (.cells C t (0, 0))) (hj : j < C.size) (s : ByteArray) (hs : s.size < 1000000) {v r : Nat} (hr : rnumN s.data.toList top = (v, r)) :
    Calls Tryz.prog 209 #[.string s, .pointer (some ⟨M, 0, none⟩), .pointer (some ⟨X, 0, none⟩)] w fun e w' => e = .returned (.int .i64 (r : Int)) ∧ WBut [B] w w' ∧ w'.heap[B]? = some (.cells (C.setIfInBounds j (.int .u64 (v : Int))) t (0, 0)) := by
  have c2 := blk_cell hm 0 (v := .int .u64 (top : Int)) rfl
  have zr := fun W : World => treadnum_a s top W hs (by omega) hr
  have hv : v ≤ top := by
    rcases rnum_codes s.data.toList top with q | q
    · rw [hr] at q
      have q : r = 0 := q
      subst q
      exact (rnum_inv _ _ _ hr).1
    · rw [hr] at q
      injection q with q _
      omega
  have w1 : IntKind.u64.wrap (v : Int) = (v : Int) := by simp [IntKind.wrap, IntKind.bits, IntKind.signed]; omega
  obtain ⟨old, hold⟩ := blk_some hB hj
  clear hr
  go_enter Tryz.func209, Tryz.ntmps209
  go_wp2_with (first
    | (go_at_call 122; ((with_reducible refine (zr _).mono ?_); rintro e w1 ⟨rfl, g1⟩; have c3 := blk_cell (wide_blk hx g1) 0 (v := .pointer (some ⟨B, j, none⟩)) rfl; have hB1 := wide_blk hB g1; have c4 := wkeep g1 hold; have f4 := blk_free hB1 j)))
  go_ret
  exact ⟨rfl, wider_but g1 (setCell_but _ ⟨B, j, none⟩ _), set_blk _ hB1⟩
theorem num_uint64 (w : World) (q : Addr) (top : Nat) (M : Int) (hM : M = (top : Int)) :
    Calls Tryz.prog 194 #[.pointer (some q), .int .u64 M] w fun e w' => ∃ X Y, e = .returned (.agg #[.func (.func 208) #[] #[.pointer (some ⟨X, 0, none⟩), .pointer (some ⟨Y, 0, none⟩)], .func (.func 209) #[] #[.pointer (some ⟨Y, 0, none⟩), .pointer (some ⟨X, 0, none⟩)]]) ∧ Wider w w' ∧ w.heap.size ≤ X ∧ w.heap.size ≤ Y ∧ w'.heap[X]? = some (.cells #[.pointer (some q)] 228 (0, 0)) ∧ w'.heap[Y]? = some (.cells #[.int .u64 (top : Int)] 28 (0, 0)) := by
  subst hM
  have hmf := mk_func
  have H := (((Own.nil (Wider.refl w)).blk #[.pointer (some q)] 228).blk #[.int .u64 (top : Int)] 28).blk #[.func (.func 208) #[] #[.pointer (some ⟨w.heap.size, 0, none⟩), .pointer (some ⟨w.heap.size + 1, 0, none⟩)], .func (.func 209) #[] #[.pointer (some ⟨w.heap.size + 1, 0, none⟩), .pointer (some ⟨w.heap.size, 0, none⟩)]] 200
  have z1 : (w.alloc (.cells #[.pointer (some q)] 228)).heap.size = w.heap.size + 1 := by simp
  rw [z1] at H
  clear z1
  go_enter Tryz.func194, Tryz.ntmps194
  go_wp2
  simp [bodyPost, results, Tryz.results194, go_sem]
  exact ⟨w.heap.size, w.heap.size + 1, by simp, H.wider, by omega, by omega, H.drop.drop.head, H.drop.head⟩
end Go.Proofs.YtilpimilbjcifaaGreatDoor

/- Package obj's whole, signed, octet, long, text, truth: parts that are one cell, by walks. -/
namespace Go.Proofs.YtilpimilbjcifaaGreatDoor
set_option linter.unusedVariables false
set_option maxRecDepth 20000
open Go.ChangeShapes Go.WideShapes Go.ChangeAt Go.RowKit Go.Joins
open Go.ChangeMaps (open_string shut_string)

/-- A part that is a number: what it puts, what it reads. -/
structure NumP (k : IntKind) (top : Nat) (ht : top < 18446744073709551616) (b0 : Nat) (W : World) (x : FnP) (q : Addr) : Prop where
  put : ∀ w, Keeps b0 W w → ∀ n, (Lit.int k n).wf = true → w.cell? q = some (.int k n) → ∀ T r, PutR (numC top ht) n T r → Puts w x T r
  get : Gets b0 W x q (numC top ht) (relN k)
theorem NumP.on {k : IntKind} {top : Nat} {ht : top < 18446744073709551616} {b0 b1 : Nat} {W w : World} {x : FnP} {q : Addr} (h : NumP k top ht b1 W x q) (g : Keeps b1 W w) (hb : b0 ≤ b1) : NumP k top ht b0 w x q :=
  ⟨fun w2 g2 => h.put w2 (g.trans (g2.less hb)), h.get.on g hb⟩
theorem numC_dec {top : Nat} {ht : top < 18446744073709551616} {s : ByteArray} {v r : Nat} (h : rnumN s.data.toList top = (v, r)) : (numC top ht).dec s = if r = 0 then some (v : Int) else none := by
  show (if (rnumN s.data.toList top).2 = 0 then _ else _) = _
  rw [h]

theorem nump_int (w : World) (q : Addr) (top : Nat) (ht : top < 18446744073709551616) (h9 : top ≤ 9223372036854775807) (M : Int) (hM : M = (top : Int)) :
    Calls Tryz.prog 183 #[.pointer (some q), .int .u64 M] w fun e w' => ∃ x : FnP, e = .returned (.agg #[.func (.func x.pf) #[] x.pc, .func (.func x.gf) #[] x.gc]) ∧ Wider w w' ∧ NumP .i64 top ht w.heap.size w' x q := by
  refine (num_int w q top M hM).mono ?_
  rintro e w1 ⟨X, Y, rfl, g, bX, bY, hX, hY⟩
  refine ⟨⟨_, _, _, _⟩, rfl, g, fun w2 g2 n wn hc T r hr => ⟨enters_of Tryz.func202 (by kernel_rfl) rfl, fun w3 g3 => ?_⟩, enters_of Tryz.func203 (by kernel_rfl) rfl, ?_⟩
  · exact nput_int (wide_blk (keep_blk hX g2 bX) g3) (wide_blk (keep_blk hY g2 bY) g3) (by omega) wn (wkeep g3 hc) hr
  · intro B j hq hB w2 C t g2 hC hj s hs
    subst hq
    obtain ⟨v, r, hr⟩ : ∃ v r, rnumN s.data.toList top = (v, r) := ⟨_, _, rfl⟩
    have k := nget_int (keep_blk hX g2 bX) (keep_blk hY g2 bY) h9 hC hj s hs hr
    rw [numC_dec hr]
    refine ⟨fun x hx => ?_, fun hn => ?_⟩
    · split at hx
      · rename_i c0
        injection hx with hx
        subst c0 hx
        refine k.mono ?_
        rintro e w3 ⟨rfl, g3, h3⟩
        exact ⟨rfl, g3, _, rfl, h3⟩
      · cases hx
    · split at hn
      · cases hn
      · rename_i c0
        refine k.mono ?_
        rintro e w3 ⟨rfl, g3, h3⟩
        exact ⟨r, rfl, c0, g3⟩
theorem nump_int64 (w : World) (q : Addr) (top : Nat) (ht : top < 18446744073709551616) (h9 : top ≤ 9223372036854775807) (M : Int) (hM : M = (top : Int)) :
    Calls Tryz.prog 195 #[.pointer (some q), .int .u64 M] w fun e w' => ∃ x : FnP, e = .returned (.agg #[.func (.func x.pf) #[] x.pc, .func (.func x.gf) #[] x.gc]) ∧ Wider w w' ∧ NumP .i64 top ht w.heap.size w' x q := by
  refine (num_int64 w q top M hM).mono ?_
  rintro e w1 ⟨X, Y, rfl, g, bX, bY, hX, hY⟩
  refine ⟨⟨_, _, _, _⟩, rfl, g, fun w2 g2 n wn hc T r hr => ⟨enters_of Tryz.func210 (by kernel_rfl) rfl, fun w3 g3 => ?_⟩, enters_of Tryz.func211 (by kernel_rfl) rfl, ?_⟩
  · exact nput_int64 (wide_blk (keep_blk hX g2 bX) g3) (wide_blk (keep_blk hY g2 bY) g3) (by omega) wn (wkeep g3 hc) hr
  · intro B j hq hB w2 C t g2 hC hj s hs
    subst hq
    obtain ⟨v, r, hr⟩ : ∃ v r, rnumN s.data.toList top = (v, r) := ⟨_, _, rfl⟩
    have k := nget_int64 (keep_blk hX g2 bX) (keep_blk hY g2 bY) h9 hC hj s hs hr
    rw [numC_dec hr]
    refine ⟨fun x hx => ?_, fun hn => ?_⟩
    · split at hx
      · rename_i c0
        injection hx with hx
        subst c0 hx
        refine k.mono ?_
        rintro e w3 ⟨rfl, g3, h3⟩
        exact ⟨rfl, g3, _, rfl, h3⟩
      · cases hx
    · split at hn
      · cases hn
      · rename_i c0
        refine k.mono ?_
        rintro e w3 ⟨rfl, g3, h3⟩
        exact ⟨r, rfl, c0, g3⟩
theorem nump_uint8 (w : World) (q : Addr) (top : Nat) (ht : top < 18446744073709551616) (h9 : top ≤ 255) (M : Int) (hM : M = (top : Int)) :
    Calls Tryz.prog 187 #[.pointer (some q), .int .u64 M] w fun e w' => ∃ x : FnP, e = .returned (.agg #[.func (.func x.pf) #[] x.pc, .func (.func x.gf) #[] x.gc]) ∧ Wider w w' ∧ NumP .u8 top ht w.heap.size w' x q := by
  refine (num_uint8 w q top M hM).mono ?_
  rintro e w1 ⟨X, Y, rfl, g, bX, bY, hX, hY⟩
  refine ⟨⟨_, _, _, _⟩, rfl, g, fun w2 g2 n wn hc T r hr => ⟨enters_of Tryz.func206 (by kernel_rfl) rfl, fun w3 g3 => ?_⟩, enters_of Tryz.func207 (by kernel_rfl) rfl, ?_⟩
  · exact nput_uint8 (wide_blk (keep_blk hX g2 bX) g3) (wide_blk (keep_blk hY g2 bY) g3) (by omega) wn (wkeep g3 hc) hr
  · intro B j hq hB w2 C t g2 hC hj s hs
    subst hq
    obtain ⟨v, r, hr⟩ : ∃ v r, rnumN s.data.toList top = (v, r) := ⟨_, _, rfl⟩
    have k := nget_uint8 (keep_blk hX g2 bX) (keep_blk hY g2 bY) h9 hC hj s hs hr
    rw [numC_dec hr]
    refine ⟨fun x hx => ?_, fun hn => ?_⟩
    · split at hx
      · rename_i c0
        injection hx with hx
        subst c0 hx
        refine k.mono ?_
        rintro e w3 ⟨rfl, g3, h3⟩
        exact ⟨rfl, g3, _, rfl, h3⟩
      · cases hx
    · split at hn
      · cases hn
      · rename_i c0
        refine k.mono ?_
        rintro e w3 ⟨rfl, g3, h3⟩
        exact ⟨r, rfl, c0, g3⟩
theorem nump_uint32 (w : World) (q : Addr) (top : Nat) (ht : top < 18446744073709551616) (h9 : top ≤ 4294967295) (M : Int) (hM : M = (top : Int)) :
    Calls Tryz.prog 186 #[.pointer (some q), .int .u64 M] w fun e w' => ∃ x : FnP, e = .returned (.agg #[.func (.func x.pf) #[] x.pc, .func (.func x.gf) #[] x.gc]) ∧ Wider w w' ∧ NumP .u32 top ht w.heap.size w' x q := by
  refine (num_uint32 w q top M hM).mono ?_
  rintro e w1 ⟨X, Y, rfl, g, bX, bY, hX, hY⟩
  refine ⟨⟨_, _, _, _⟩, rfl, g, fun w2 g2 n wn hc T r hr => ⟨enters_of Tryz.func204 (by kernel_rfl) rfl, fun w3 g3 => ?_⟩, enters_of Tryz.func205 (by kernel_rfl) rfl, ?_⟩
  · exact nput_uint32 (wide_blk (keep_blk hX g2 bX) g3) (wide_blk (keep_blk hY g2 bY) g3) (by omega) wn (wkeep g3 hc) hr
  · intro B j hq hB w2 C t g2 hC hj s hs
    subst hq
    obtain ⟨v, r, hr⟩ : ∃ v r, rnumN s.data.toList top = (v, r) := ⟨_, _, rfl⟩
    have k := nget_uint32 (keep_blk hX g2 bX) (keep_blk hY g2 bY) h9 hC hj s hs hr
    rw [numC_dec hr]
    refine ⟨fun x hx => ?_, fun hn => ?_⟩
    · split at hx
      · rename_i c0
        injection hx with hx
        subst c0 hx
        refine k.mono ?_
        rintro e w3 ⟨rfl, g3, h3⟩
        exact ⟨rfl, g3, _, rfl, h3⟩
      · cases hx
    · split at hn
      · cases hn
      · rename_i c0
        refine k.mono ?_
        rintro e w3 ⟨rfl, g3, h3⟩
        exact ⟨r, rfl, c0, g3⟩
theorem nump_uint64 (w : World) (q : Addr) (top : Nat) (ht : top < 18446744073709551616) (h9 : top ≤ 18446744073709551615) (M : Int) (hM : M = (top : Int)) :
    Calls Tryz.prog 194 #[.pointer (some q), .int .u64 M] w fun e w' => ∃ x : FnP, e = .returned (.agg #[.func (.func x.pf) #[] x.pc, .func (.func x.gf) #[] x.gc]) ∧ Wider w w' ∧ NumP .u64 top ht w.heap.size w' x q := by
  refine (num_uint64 w q top M hM).mono ?_
  rintro e w1 ⟨X, Y, rfl, g, bX, bY, hX, hY⟩
  refine ⟨⟨_, _, _, _⟩, rfl, g, fun w2 g2 n wn hc T r hr => ⟨enters_of Tryz.func208 (by kernel_rfl) rfl, fun w3 g3 => ?_⟩, enters_of Tryz.func209 (by kernel_rfl) rfl, ?_⟩
  · exact nput_uint64 (wide_blk (keep_blk hX g2 bX) g3) (wide_blk (keep_blk hY g2 bY) g3) (by omega) wn (wkeep g3 hc) hr
  · intro B j hq hB w2 C t g2 hC hj s hs
    subst hq
    obtain ⟨v, r, hr⟩ : ∃ v r, rnumN s.data.toList top = (v, r) := ⟨_, _, rfl⟩
    have k := nget_uint64 (keep_blk hX g2 bX) (keep_blk hY g2 bY) h9 hC hj s hs hr
    rw [numC_dec hr]
    refine ⟨fun x hx => ?_, fun hn => ?_⟩
    · split at hx
      · rename_i c0
        injection hx with hx
        subst c0 hx
        refine k.mono ?_
        rintro e w3 ⟨rfl, g3, h3⟩
        exact ⟨rfl, g3, _, rfl, h3⟩
      · cases hx
    · split at hn
      · cases hn
      · rename_i c0
        refine k.mono ?_
        rintro e w3 ⟨rfl, g3, h3⟩
        exact ⟨r, rfl, c0, g3⟩
theorem owhole_c (w : World) (q : Addr) :
    Calls Tryz.prog 162 #[.pointer (some q)] w fun e w' => ∃ x : FnP, e = .returned (.agg #[.func (.func x.pf) #[] x.pc, .func (.func x.gf) #[] x.gc]) ∧ Wider w w' ∧ NumP .i64 2147483647 (by decide) w.heap.size w' x q := by
  have H := (Own.nil (Wider.refl w)).blk #[.nilFunc, .nilFunc] 200
  have zn := fun W : World => nump_int W q 2147483647 (by decide) (by decide) 2147483647 rfl
  have hb : w.heap.size ≤ (w.alloc (.cells #[.nilFunc, .nilFunc] 200)).heap.size := by simp
  go_enter Tryz.func162, Tryz.ntmps162
  go_wp2_with (first
    | (go_at_call 183; ((with_reducible refine (zn _).mono ?_); rintro e w1 ⟨⟨pf, pc, gf, gc⟩, rfl, g1, h1⟩; have H1 := H.quiet g1; have k0 := blk_cell H1.head 0 (v := .nilFunc) rfl; have k1 := blk_cell H1.head 1 (v := .nilFunc) rfl; have f0 := blk_free H1.head 0; have f1 := blk_free H1.head 1)))
  have H2 := (H1.store 0 (.func (.func pf) #[] pc)).store 1 (.func (.func gf) #[] gc)
  have d0 := blk_cell H2.head 0 (v := .func (.func pf) #[] pc) rfl
  have d1 := blk_cell H2.head 1 (v := .func (.func gf) #[] gc) rfl
  simp [bodyPost, results, Tryz.results162, go_sem, d0, d1]
  exact ⟨⟨pf, pc, gf, gc⟩, ⟨⟨rfl, rfl⟩, rfl, rfl⟩, H2.wider, h1.on ((keeps_set w1 (by simp)).trans (keeps_set _ (by simp))) hb⟩
theorem osigned_c (w : World) (q : Addr) :
    Calls Tryz.prog 170 #[.pointer (some q)] w fun e w' => ∃ x : FnP, e = .returned (.agg #[.func (.func x.pf) #[] x.pc, .func (.func x.gf) #[] x.gc]) ∧ Wider w w' ∧ NumP .i64 9223372036854775807 (by decide) w.heap.size w' x q := by
  have H := (Own.nil (Wider.refl w)).blk #[.nilFunc, .nilFunc] 200
  have zn := fun W : World => nump_int64 W q 9223372036854775807 (by decide) (by decide) 9223372036854775807 rfl
  have hb : w.heap.size ≤ (w.alloc (.cells #[.nilFunc, .nilFunc] 200)).heap.size := by simp
  go_enter Tryz.func170, Tryz.ntmps170
  go_wp2_with (first
    | (go_at_call 195; ((with_reducible refine (zn _).mono ?_); rintro e w1 ⟨⟨pf, pc, gf, gc⟩, rfl, g1, h1⟩; have H1 := H.quiet g1; have k0 := blk_cell H1.head 0 (v := .nilFunc) rfl; have k1 := blk_cell H1.head 1 (v := .nilFunc) rfl; have f0 := blk_free H1.head 0; have f1 := blk_free H1.head 1)))
  have H2 := (H1.store 0 (.func (.func pf) #[] pc)).store 1 (.func (.func gf) #[] gc)
  have d0 := blk_cell H2.head 0 (v := .func (.func pf) #[] pc) rfl
  have d1 := blk_cell H2.head 1 (v := .func (.func gf) #[] gc) rfl
  simp [bodyPost, results, Tryz.results170, go_sem, d0, d1]
  exact ⟨⟨pf, pc, gf, gc⟩, ⟨⟨rfl, rfl⟩, rfl, rfl⟩, H2.wider, h1.on ((keeps_set w1 (by simp)).trans (keeps_set _ (by simp))) hb⟩
theorem ooctet_c (w : World) (q : Addr) :
    Calls Tryz.prog 165 #[.pointer (some q)] w fun e w' => ∃ x : FnP, e = .returned (.agg #[.func (.func x.pf) #[] x.pc, .func (.func x.gf) #[] x.gc]) ∧ Wider w w' ∧ NumP .u8 255 (by decide) w.heap.size w' x q := by
  have H := (Own.nil (Wider.refl w)).blk #[.nilFunc, .nilFunc] 200
  have zn := fun W : World => nump_uint8 W q 255 (by decide) (by decide) 255 rfl
  have hb : w.heap.size ≤ (w.alloc (.cells #[.nilFunc, .nilFunc] 200)).heap.size := by simp
  go_enter Tryz.func165, Tryz.ntmps165
  go_wp2_with (first
    | (go_at_call 187; ((with_reducible refine (zn _).mono ?_); rintro e w1 ⟨⟨pf, pc, gf, gc⟩, rfl, g1, h1⟩; have H1 := H.quiet g1; have k0 := blk_cell H1.head 0 (v := .nilFunc) rfl; have k1 := blk_cell H1.head 1 (v := .nilFunc) rfl; have f0 := blk_free H1.head 0; have f1 := blk_free H1.head 1)))
  have H2 := (H1.store 0 (.func (.func pf) #[] pc)).store 1 (.func (.func gf) #[] gc)
  have d0 := blk_cell H2.head 0 (v := .func (.func pf) #[] pc) rfl
  have d1 := blk_cell H2.head 1 (v := .func (.func gf) #[] gc) rfl
  simp [bodyPost, results, Tryz.results165, go_sem, d0, d1]
  exact ⟨⟨pf, pc, gf, gc⟩, ⟨⟨rfl, rfl⟩, rfl, rfl⟩, H2.wider, h1.on ((keeps_set w1 (by simp)).trans (keeps_set _ (by simp))) hb⟩
theorem olong_c (w : World) (q : Addr) :
    Calls Tryz.prog 169 #[.pointer (some q)] w fun e w' => ∃ x : FnP, e = .returned (.agg #[.func (.func x.pf) #[] x.pc, .func (.func x.gf) #[] x.gc]) ∧ Wider w w' ∧ NumP .u64 18446744073709551615 (by decide) w.heap.size w' x q := by
  have H := (Own.nil (Wider.refl w)).blk #[.nilFunc, .nilFunc] 200
  have zn := fun W : World => nump_uint64 W q 18446744073709551615 (by decide) (by decide) 18446744073709551615 rfl
  have hb : w.heap.size ≤ (w.alloc (.cells #[.nilFunc, .nilFunc] 200)).heap.size := by simp
  go_enter Tryz.func169, Tryz.ntmps169
  go_wp2_with (first
    | (go_at_call 194; ((with_reducible refine (zn _).mono ?_); rintro e w1 ⟨⟨pf, pc, gf, gc⟩, rfl, g1, h1⟩; have H1 := H.quiet g1; have k0 := blk_cell H1.head 0 (v := .nilFunc) rfl; have k1 := blk_cell H1.head 1 (v := .nilFunc) rfl; have f0 := blk_free H1.head 0; have f1 := blk_free H1.head 1)))
  have H2 := (H1.store 0 (.func (.func pf) #[] pc)).store 1 (.func (.func gf) #[] gc)
  have d0 := blk_cell H2.head 0 (v := .func (.func pf) #[] pc) rfl
  have d1 := blk_cell H2.head 1 (v := .func (.func gf) #[] gc) rfl
  simp [bodyPost, results, Tryz.results169, go_sem, d0, d1]
  exact ⟨⟨pf, pc, gf, gc⟩, ⟨⟨rfl, rfl⟩, rfl, rfl⟩, H2.wider, h1.on ((keeps_set w1 (by simp)).trans (keeps_set _ (by simp))) hb⟩
end Go.Proofs.YtilpimilbjcifaaGreatDoor

/- Package obj's text and truth: parts that are one cell, by walks; parts of objects as they stand in the codes. -/
namespace Go.Proofs.YtilpimilbjcifaaGreatDoor
set_option linter.unusedVariables false
set_option maxRecDepth 20000
open Go.ChangeShapes Go.WideShapes Go.ChangeAt Go.RowKit Go.Joins
open Go.ChangeMaps (open_string shut_string)

/-- A part of an object: what it puts of a cell, what it reads into it. -/
structure PartV (c : Cod ValN) (I : World → Value → ValN → Prop) (R : Rel ValN) (b0 : Nat) (W : World) (x : FnP) (q : Addr) : Prop where
  put : ∀ w, Keeps b0 W w → ∀ u y, w.cell? q = some u → I w u y → ∀ T r, PutR c y T r → Puts w x T r
  get : Gets b0 W x q c R
theorem PartV.on {c : Cod ValN} {I : World → Value → ValN → Prop} {R : Rel ValN} {b0 b1 : Nat} {W w : World} {x : FnP} {q : Addr} (h : PartV c I R b1 W x q) (g : Keeps b1 W w) (hb : b0 ≤ b1) : PartV c I R b0 w x q :=
  ⟨fun w2 g2 => h.put w2 (g.trans (g2.less hb)), h.get.on g hb⟩
/-- How a number comes in; how it lies in a cell. -/
def inV (k : IntKind) (_ : World) (u : Value) (y : ValN) : Prop := ∃ n, y = .num n ∧ u = .int k n ∧ (Lit.int k n).wf = true
def relV (k : IntKind) : Rel ValN := fun _ _ u y => ∃ n, y = .num n ∧ u = .int k n
theorem relV_S (k : IntKind) : RelS (relV k) := fun _ _ _ _ _ _ h => h
theorem relN_S (k : IntKind) : RelS (relN k) := fun _ _ _ _ _ _ h => h
theorem NumP.part {k : IntKind} {top : Nat} {ht : top < 18446744073709551616} {b0 : Nat} {W : World} {x : FnP} {q : Addr} (h : NumP k top ht b0 W x q) : PartV (numV top ht) (inV k) (relV k) b0 W x q where
  put := by
    rintro w g u y hc ⟨n, rfl, rfl, wn⟩ T r hr
    refine h.put w g n wn hc T r ?_
    rcases hr with ⟨h1, h2, h3⟩ | ⟨h1, h2, h3⟩
    · exact .inl ⟨numV_okN.1 h1, h2, h3⟩
    · exact .inr ⟨fun q => h1 (numV_okN.2 q), h2, h3⟩
  get := by
    refine ⟨h.get.1, ?_⟩
    intro B j hq hB w C t g hC hj s hs
    obtain ⟨k1, k2⟩ := h.get.2 B j hq hB w C t g hC hj s hs
    refine ⟨fun y hy => ?_, fun hn => ?_⟩
    · have hy2 : ((numC top ht).dec s).map ValN.num = some y := hy
      cases e : (numC top ht).dec s with
      | none => rw [e] at hy2; cases hy2
      | some n =>
        rw [e] at hy2
        simp only [Option.map_some, Option.some.injEq] at hy2
        subst hy2
        refine (k1 n e).mono ?_
        rintro e w3 ⟨rfl, g3, u, hu, h3⟩
        exact ⟨rfl, g3, u, ⟨n, rfl, hu⟩, h3⟩
    · have hn2 : ((numC top ht).dec s).map ValN.num = none := hn
      cases e : (numC top ht).dec s with
      | none => exact k2 e
      | some n => rw [e] at hn2; cases hn2

/-! ### Texts -/
def inT (_ : World) (u : Value) (y : ValN) : Prop := ∃ s, y = .txt s ∧ u = .string s ∧ s.size ≤ maxLen
def relT : Rel ValN := fun _ _ u y => ∃ s, y = .txt s ∧ u = .string s
theorem relT_S : RelS relT := fun _ _ _ _ _ _ h => h
theorem txt_okN {most : Nat} {s : ByteArray} : (txtV most).ok (.txt s) ↔ s.size ≤ most :=
  ⟨fun ⟨n, e, h⟩ => by injection e with e; subst e; exact h, fun h => ⟨s, rfl, h⟩⟩
theorem tput_c {w : World} {X M : Nat} {q : Addr} {most : Nat} (hx : w.heap[X]? = some (.cells #[.pointer (some q)] 222 (0, 0))) (hm : w.heap[M]? = some (.cells #[.int .i64 (most : Int)] 3 (0, 0))) {s : ByteArray} (hs : s.size ≤ maxLen) (hc : w.cell? q = some (.string s)) {T : ByteArray} {r : Nat} (hr : PutR (txtV most) (.txt s) T r) :
    Calls Tryz.prog 190 #[.pointer (some ⟨X, 0, none⟩), .pointer (some ⟨M, 0, none⟩)] w fun e w' => e = .returned (.tuple #[.string T, .int .i64 (r : Int)]) ∧ Wider w w' := by
  unfold maxLen at hs
  have c1 := blk_cell hx 0 (v := .pointer (some q)) rfl
  have c2 := blk_cell hm 0 (v := .int .i64 (most : Int)) rfl
  unfold PutR at hr
  rw [txt_okN] at hr
  rcases hr with ⟨l1, e, rfl⟩ | ⟨l1, rfl, rfl⟩
  · have e2 : s = T := e.symm
    clear e
    subst e2
    have d1 : decide ((most : Int) < (s.size : Int)) = false := decide_eq_false (by omega)
    have d2 : decide (most < s.size) = false := decide_eq_false (by omega)
    clear hx hm hs
    go_enter Tryz.func190, Tryz.ntmps190
    go_wp2
    go_region
    all_goals
      go_wp2
      go_ret2
      exact ⟨rfl, Wider.refl _⟩
  · have d1 : decide ((most : Int) < (s.size : Int)) = true := decide_eq_true (by omega)
    have d2 : decide (most < s.size) = true := decide_eq_true (by omega)
    clear hx hm hs
    go_enter Tryz.func190, Tryz.ntmps190
    go_wp2
    go_region
    all_goals
      go_wp2
      go_ret2
      exact ⟨rfl, Wider.refl _⟩
theorem tget_c {w : World} {X M B j : Nat} {most : Nat} {C : Array Value} {t : TypeId} (hx : w.heap[X]? = some (.cells #[.pointer (some ⟨B, j, none⟩)] 222 (0, 0))) (hm : w.heap[M]? = some (.cells #[.int .i64 (most : Int)] 3 (0, 0))) (hB : w.heap[B]? = some (.cells C t (0, 0))) (hj : j < C.size) (s : ByteArray) (hs : s.size < 1000000) :
    (s.size ≤ most → Calls Tryz.prog 191 #[.string s, .pointer (some ⟨M, 0, none⟩), .pointer (some ⟨X, 0, none⟩)] w fun e w' => e = .returned (.int .i64 0) ∧ WBut [B] w w' ∧ w'.heap[B]? = some (.cells (C.setIfInBounds j (.string s)) t (0, 0))) ∧
    (most < s.size → Calls Tryz.prog 191 #[.string s, .pointer (some ⟨M, 0, none⟩), .pointer (some ⟨X, 0, none⟩)] w fun e w' => e = .returned (.int .i64 3) ∧ WBut [B] w w') := by
  have c1 := blk_cell hx 0 (v := .pointer (some ⟨B, j, none⟩)) rfl
  have c2 := blk_cell hm 0 (v := .int .i64 (most : Int)) rfl
  obtain ⟨old, hold⟩ := blk_some hB hj
  have fr := blk_free hB j
  have HB := Lib.hid hB
  clear hx hm hB
  refine ⟨fun l => ?_, fun l => ?_⟩
  · have d1 : decide ((most : Int) < (s.size : Int)) = false := decide_eq_false (by omega)
    have d2 : decide (most < s.size) = false := decide_eq_false (by omega)
    go_enter Tryz.func191, Tryz.ntmps191
    go_wp2
    go_ret
    exact ⟨rfl, setCell_but _ ⟨B, j, none⟩ _, set_blk _ HB.out⟩
  · have d1 : decide ((most : Int) < (s.size : Int)) = true := decide_eq_true (by omega)
    have d2 : decide (most < s.size) = true := decide_eq_true l
    go_enter Tryz.func191, Tryz.ntmps191
    go_wp2
    go_ret
    exact ⟨rfl, (Wider.refl w).but [B]⟩
theorem text_c (w : World) (q : Addr) (most : Nat) (M : Int) (hM : M = (most : Int)) :
    Calls Tryz.prog 167 #[.pointer (some q), .int .i64 M] w fun e w' => ∃ x : FnP, e = .returned (.agg #[.func (.func x.pf) #[] x.pc, .func (.func x.gf) #[] x.gc]) ∧ Wider w w' ∧ PartV (txtV most) inT relT w.heap.size w' x q := by
  subst hM
  have hmf := mk_func
  have H := (((Own.nil (Wider.refl w)).blk #[.pointer (some q)] 222).blk #[.int .i64 (most : Int)] 3).blk #[.func (.func 190) #[] #[.pointer (some ⟨w.heap.size, 0, none⟩), .pointer (some ⟨w.heap.size + 1, 0, none⟩)], .func (.func 191) #[] #[.pointer (some ⟨w.heap.size + 1, 0, none⟩), .pointer (some ⟨w.heap.size, 0, none⟩)]] 200
  have z1 : (w.alloc (.cells #[.pointer (some q)] 222)).heap.size = w.heap.size + 1 := by simp
  rw [z1] at H
  clear z1
  go_enter Tryz.func167, Tryz.ntmps167
  go_wp2
  simp [bodyPost, results, Tryz.results167, go_sem]
  refine ⟨⟨_, _, _, _⟩, ⟨⟨rfl, rfl⟩, rfl, rfl⟩, H.wider, ?_, enters_of Tryz.func191 (by kernel_rfl) rfl, ?_⟩
  · rintro w2 g2 u y hc ⟨s, rfl, rfl, hs⟩ T r hr
    refine ⟨enters_of Tryz.func190 (by kernel_rfl) rfl, fun w3 g3 => ?_⟩
    exact tput_c (wide_blk (keep_blk H.drop.drop.head g2 (by omega)) g3) (wide_blk (keep_blk H.drop.head g2 (by omega)) g3) hs (wkeep g3 hc) hr
  · intro B j hq hB w2 C t g2 hC hj s hs
    subst hq
    obtain ⟨k1, k2⟩ := tget_c (keep_blk H.drop.drop.head g2 (by omega)) (keep_blk H.drop.head g2 (by omega)) hC hj s hs
    refine ⟨fun y hy => ?_, fun hn => ?_⟩
    · have hy2 : (if s.size ≤ most then some (ValN.txt s) else none) = some y := hy
      split at hy2
      · rename_i l
        injection hy2 with hy2
        subst hy2
        refine (k1 l).mono ?_
        rintro e w3 ⟨rfl, g3, h3⟩
        exact ⟨rfl, g3, _, ⟨s, rfl, rfl⟩, h3⟩
      · cases hy2
    · have hn2 : (if s.size ≤ most then some (ValN.txt s) else none) = none := hn
      split at hn2
      · cases hn2
      · rename_i l
        refine (k2 (by omega)).mono ?_
        rintro e w3 ⟨rfl, g3⟩
        exact ⟨3, rfl, by decide, g3⟩

/-! ### Truths -/
def inB (_ : World) (u : Value) (y : ValN) : Prop := ∃ b : Bool, y = .num (if b = true then 1 else 0) ∧ u = .bool b
def relB : Rel ValN := fun _ _ u y => ∃ n, y = .num n ∧ u = .bool (n == 1)
theorem relB_S : RelS relB := fun _ _ _ _ _ _ h => h
theorem bput_c {w : World} {X : Nat} {q : Addr} (hx : w.heap[X]? = some (.cells #[.pointer (some q)] 230 (0, 0))) {b : Bool} (hc : w.cell? q = some (.bool b)) {T : ByteArray} {r : Nat} (hr : PutR nT (.num (if b = true then 1 else 0)) T r) :
    Calls Tryz.prog 196 #[.pointer (some ⟨X, 0, none⟩)] w fun e w' => e = .returned (.tuple #[.string T, .int .i64 (r : Int)]) ∧ Wider w w' := by
  have c1 := blk_cell hx 0 (v := .pointer (some q)) rfl
  have ok : nT.ok (.num (if b = true then 1 else 0)) := numV_okN.2 (by cases b <;> simp)
  have e : T = nT.enc (.num (if b = true then 1 else 0)) ∧ r = 0 := by
    rcases hr with ⟨_, h2, h3⟩ | ⟨h1, _, _⟩
    · exact ⟨h2, h3⟩
    · exact absurd ok h1
  obtain ⟨e1, rfl⟩ := e
  clear hr ok hx
  cases b with
  | true =>
    have zn := fun W : World => tnum_i 1 W (by decide) (by decide) (T := T) (by rw [e1]; rfl)
    clear e1
    go_enter Tryz.func196, Tryz.ntmps196
    go_wp2_with (first
      | (go_at_call 110; ((with_reducible refine (zn _).mono ?_); rintro e w1 ⟨rfl, g1⟩)))
    go_ret2
    exact ⟨rfl, g1⟩
  | false =>
    obtain rfl : T = ⟨#[]⟩ := by
      rw [e1]
      show mkB (numB 0) = _
      exact empty_of _ enc0
    clear e1
    go_enter Tryz.func196, Tryz.ntmps196
    go_wp2
    go_ret2
    exact ⟨rfl, Wider.refl _⟩
theorem bget_c {w : World} {X B j : Nat} {C : Array Value} {t : TypeId} (hx : w.heap[X]? = some (.cells #[.pointer (some ⟨B, j, none⟩)] 230 (0, 0))) (hB : w.heap[B]? = some (.cells C t (0, 0))) (hj : j < C.size) (s : ByteArray) (hs : s.size < 1000000) {v r : Nat} (hr : rnumN s.data.toList 1 = (v, r)) {b : Bool} (hb : ((v : Int) == 1) = b) :
    Calls Tryz.prog 197 #[.string s, .pointer (some ⟨X, 0, none⟩)] w fun e w' => e = .returned (.int .i64 (r : Int)) ∧ WBut [B] w w' ∧ w'.heap[B]? = some (.cells (C.setIfInBounds j (.bool b)) t (0, 0)) := by
  have zr := fun W : World => treadnum_i s 1 1 rfl W hs (by omega) hr
  obtain ⟨old, hold⟩ := blk_some hB hj
  clear hr
  go_enter Tryz.func197, Tryz.ntmps197
  go_wp2_with (first
    | (go_at_call 122; ((with_reducible refine (zr _).mono ?_); rintro e w1 ⟨rfl, g1⟩; have c3 := blk_cell (wide_blk hx g1) 0 (v := .pointer (some ⟨B, j, none⟩)) rfl; have hB1 := wide_blk hB g1; have c4 := wkeep g1 hold; have f4 := blk_free hB1 j)))
  go_ret
  exact ⟨rfl, wider_but g1 (setCell_but _ ⟨B, j, none⟩ _), set_blk _ hB1⟩
theorem truth_c (w : World) (q : Addr) :
    Calls Tryz.prog 171 #[.pointer (some q)] w fun e w' => ∃ x : FnP, e = .returned (.agg #[.func (.func x.pf) #[] x.pc, .func (.func x.gf) #[] x.gc]) ∧ Wider w w' ∧ PartV nT inB relB w.heap.size w' x q := by
  have hmf := mk_func
  have H := ((Own.nil (Wider.refl w)).blk #[.pointer (some q)] 230).blk #[.func (.func 196) #[] #[.pointer (some ⟨w.heap.size, 0, none⟩)], .func (.func 197) #[] #[.pointer (some ⟨w.heap.size, 0, none⟩)]] 200
  go_enter Tryz.func171, Tryz.ntmps171
  go_wp2
  simp [bodyPost, results, Tryz.results171, go_sem]
  refine ⟨⟨_, _, _, _⟩, ⟨⟨rfl, rfl⟩, rfl, rfl⟩, H.wider, ?_, enters_of Tryz.func197 (by kernel_rfl) rfl, ?_⟩
  · rintro w2 g2 u y hc ⟨b, rfl, rfl⟩ T r hr
    refine ⟨enters_of Tryz.func196 (by kernel_rfl) rfl, fun w3 g3 => ?_⟩
    exact bput_c (wide_blk (keep_blk H.drop.head g2 (by omega)) g3) (wkeep g3 hc) hr
  · intro B j hq hB w2 C t g2 hC hj s hs
    subst hq
    obtain ⟨v, r, hr⟩ : ∃ v r, rnumN s.data.toList 1 = (v, r) := ⟨_, _, rfl⟩
    have k := bget_c (keep_blk H.drop.head g2 (by omega)) hC hj s hs hr rfl
    have e : nT.dec s = if r = 0 then some (.num (v : Int)) else none := by
      show ((numC 1 _).dec s).map ValN.num = _
      rw [numC_dec hr]
      split <;> rfl
    rw [e]
    refine ⟨fun y hy => ?_, fun hn => ?_⟩
    · split at hy
      · rename_i c0
        injection hy with hy
        subst c0 hy
        refine k.mono ?_
        rintro e w3 ⟨rfl, g3, h3⟩
        exact ⟨rfl, g3, _, ⟨_, rfl, rfl⟩, h3⟩
      · cases hy
    · split at hn
      · cases hn
      · rename_i c0
        refine k.mono ?_
        rintro e w3 ⟨rfl, g3, h3⟩
        exact ⟨r, rfl, c0, g3⟩
end Go.Proofs.YtilpimilbjcifaaGreatDoor

/- Package obj's record: what it puts, by walks. -/
namespace Go.Proofs.YtilpimilbjcifaaGreatDoor
set_option linter.unusedVariables false
set_option maxRecDepth 20000
open Go.ChangeShapes Go.WideShapes Go.ChangeAt Go.RowKit Go.Joins
open Go.ChangeMaps (open_string shut_string)

/-- The cells of some parts. -/
abbrev pv (x : FnP) : Value := .func (.func x.pf) #[] x.pc
abbrev gv (x : FnP) : Value := .func (.func x.gf) #[] x.gc
def cellsP (ps : List FnP) : List Value := ps.flatMap fun x => [pv x, gv x]
theorem cellsP_at : ∀ (ps : List FnP) (k : Nat) (x : FnP), ps[k]? = some x → (cellsP ps)[k * 2]? = some (pv x) ∧ (cellsP ps)[k * 2 + 1]? = some (gv x)
  | [], k, x, h => by simp at h
  | p :: ps, 0, x, h => by
    simp at h; subst h
    exact ⟨rfl, rfl⟩
  | p :: ps, k + 1, x, h => by
    have q := cellsP_at ps k x (by simpa using h)
    have e : (k + 1) * 2 = k * 2 + 1 + 1 := by omega
    rw [e]
    exact q
/-- A record of parts. -/
def RecAt (b0 : Nat) (W : World) (x : FnP) (ps : List FnP) : Prop :=
  ∃ K P n t, x = ⟨181, #[.pointer (some ⟨K, 0, none⟩)], 182, #[.pointer (some ⟨K, 0, none⟩)]⟩ ∧ b0 ≤ K ∧ b0 ≤ P ∧
    W.heap[K]? = some (.cells #[.slice (some ⟨P, 0, none⟩) n n] 247 (0, 0)) ∧ W.heap[P]? = some (.cells (cellsP ps).toArray t (0, 0)) ∧ ps.length = n
theorem RecAt.on {b0 b1 : Nat} {W w : World} {x : FnP} {ps : List FnP} (h : RecAt b1 W x ps) (g : Keeps b1 W w) (hb : b0 ≤ b1) : RecAt b0 w x ps := by
  obtain ⟨K, P, n, t, e, h1, h2, h3, h4, h5⟩ := h
  exact ⟨K, P, n, t, e, by omega, by omega, keep_blk h3 g h1, keep_blk h4 g h2, h5⟩
theorem record_c (w : World) {b0 P n : Nat} {t : TypeId} {ps : List FnP} (hP : w.heap[P]? = some (.cells (cellsP ps).toArray t (0, 0))) (hn : ps.length = n) (hb : b0 ≤ P) :
    Calls Tryz.prog 161 #[.slice (some ⟨P, 0, none⟩) n n] w fun e w' => ∃ x : FnP, e = .returned (.agg #[.func (.func x.pf) #[] x.pc, .func (.func x.gf) #[] x.gc]) ∧ Wider w w' ∧ RecAt b0 w' x ps := by
  have hmf := mk_func
  have H := ((Own.nil (Wider.refl w)).blk #[.slice (some ⟨P, 0, none⟩) n n] 247).blk #[.func (.func 181) #[] #[.pointer (some ⟨w.heap.size, 0, none⟩)], .func (.func 182) #[] #[.pointer (some ⟨w.heap.size, 0, none⟩)]] 200
  have hl : P < w.heap.size := (Array.getElem?_eq_some_iff.1 hP).1
  have HP := Lib.hid hP
  clear hP
  go_enter Tryz.func161, Tryz.ntmps161
  go_wp2
  simp [bodyPost, results, Tryz.results161, go_sem]
  exact ⟨⟨_, _, _, _⟩, ⟨⟨rfl, rfl⟩, rfl, rfl⟩, H.wider, _, _, _, _, rfl, by omega, hb, H.drop.head, wide_blk HP.out H.wider, hn⟩

theorem Own.bare {V w : World} {L : List Thing} (H : Own V w L) (e : TypeId) (size : Nat) : Own V w (rowT e size (.slice none 0 0) 0 [] :: L) :=
  H.make (Wider.refl w) (World.ownsRow_nil _ _ _ _) (rowT_stable _ _ _ _ _) (fun i hi => by simp [Value.ownBlock] at hi)
/-! ### What a record puts -/
section
variable {β : Type}
theorem attrsG_snoc : ∀ (cs : List (Cod β)) (xs : List β) (j : Nat) (c : Cod β) (x : β), cs.length = xs.length → attrsG j (cs ++ [c]) (xs ++ [x]) = addT (attrsG j cs xs) (j + cs.length) (c.enc x)
  | [], [], j, c, x, _ => by
    simp only [List.nil_append, attrsG, addT, List.length_nil, Nat.add_zero]
  | [], _ :: _, _, _, _, h => by simp at h
  | _ :: _, [], _, _, _, h => by simp at h
  | d :: cs, y :: xs, j, c, x, h => by
    have ih := attrsG_snoc cs xs (j + 1) c x (by simpa using h)
    have e : j + 1 + cs.length = j + (cs.length + 1) := by omega
    rw [e] at ih
    simp only [List.cons_append, attrsG, List.length_cons]
    rw [ih]
    unfold addT
    split <;> split <;> simp [*]
theorem attrsG_next {cs : List (Cod β)} {xs : List β} {k : Nat} {c : Cod β} {x : β} (hl : xs.length = cs.length) (hc : cs[k]? = some c) (hx : xs[k]? = some x) : attrsG 1 (cs.take (k + 1)) (xs.take (k + 1)) = addT (attrsG 1 (cs.take k) (xs.take k)) (k + 1) (c.enc x) := by
  have h1 := (List.getElem?_eq_some_iff.1 hc).1
  rw [take_next cs k c hc, take_next xs k x hx, attrsG_snoc _ _ _ _ _ (by simp; omega)]
  have e : 1 + (cs.take k).length = k + 1 := by simp; omega
  rw [e]
theorem okG_of : ∀ (cs : List (Cod β)) (xs : List β), xs.length = cs.length → (∀ (k : Nat) c x, cs[k]? = some c → xs[k]? = some x → c.ok x) → okG cs xs
  | [], [], _, _ => trivial
  | [], _ :: _, h, _ => by simp at h
  | _ :: _, [], h, _ => by simp at h
  | c :: cs, x :: xs, h, k => ⟨k 0 c x rfl rfl, okG_of cs xs (by simpa using h) fun i d y hd hy => k (i + 1) d y (by simpa using hd) (by simpa using hy)⟩
theorem okG_take {cs : List (Cod β)} {xs : List β} (h : okG cs xs) (k : Nat) : okG (cs.take k) (xs.take k) := by
  have hl := okG_length cs xs h
  refine okG_of _ _ (by simp; omega) fun i c x hc hx => ?_
  rw [List.getElem?_take] at hc hx
  split at hc
  · rename_i hi
    rw [if_pos hi] at hx
    exact okG_at cs xs i c x h hc hx
  · cases hc
end
set_option maxHeartbeats 8000000 in
theorem recput_c {β : Type} {w : World} {b0 : Nat} {x : FnP} {ps : List FnP} (hR : RecAt b0 w x ps) {cs : List (Cod β)} {xs : List β} (hlp : ps.length = cs.length) (hlx : xs.length = cs.length)
    (hp : ∀ (k : Nat) p c y, ps[k]? = some p → cs[k]? = some c → xs[k]? = some y → ∀ T r, PutR c y T r → Puts w p T r) (hn9 : cs.length < 255) (hcap : ∀ c ∈ cs, c.cap ≤ 65535) (hsum : (cs.map fun c => 3 + c.cap).sum < 1000000)
    {T : ByteArray} {r : Nat} (hr : PutG cs xs T r) : Puts w x T r := by
  refine ⟨by obtain ⟨K, P, n, t, rfl, _⟩ := hR; exact enters_of Tryz.func181 (by kernel_rfl) rfl, ?_⟩
  intro w2 g2
  obtain ⟨K, P, n, t, rfl, hK, hP, hk, hps, hn⟩ := hR
  show Calls Tryz.prog 181 #[.pointer (some ⟨K, 0, none⟩)] w2 _
  have HPP : Hid (∀ (k : Nat) p c y, ps[k]? = some p → cs[k]? = some c → xs[k]? = some y → ∀ T r, PutR c y T r → Puts w2 p T r) := fun k p c y h1 h2 h3 T r h4 => (hp k p c y h1 h2 h3 T r h4).on g2
  have hk2 := wide_blk hk g2
  have HPS := Lib.hid (wide_blk hps g2)
  have HLP : Hid (ps.length = n) := hn
  have HLC : Hid (cs.length = n) := by show _ = _; omega
  have HLX : Hid (xs.length = n) := by show _ = _; omega
  have hn5 : n < 255 := by omega
  have HS := Lib.hid hsum
  have HC := Lib.hid hcap
  have HR := Lib.hid hr
  have c1 := blk_cell hk2 0 (v := .slice (some ⟨P, 0, none⟩) n n) rfl
  have H0 := (Own.nil (Wider.refl w2)).bare 89 2
  obtain ⟨i0, hi, hz0, hz1, hz2⟩ := info_parts infoTlv
  clear hp hlp hlx hn9 hcap hsum hr hk hps hn hk2 g2
  go_enter Tryz.func181, Tryz.ntmps181
  go_wp2
  go_loopw [3, 10] (fun l i wr => ∃ k : Nat, k ≤ n ∧ i = .int .i64 (k : Int) ∧ ∃ A m c L, l = .slice A m c ∧ Own w2 wr [rowT 89 2 (.slice A m c) m (cellsA L)] ∧ Hid (L.length = m) ∧ Hid (m ≤ k) ∧ Hid (L = attrsG 1 (cs.take k) (xs.take k)) ∧ Hid (okG (cs.take k) (xs.take k))) (fun _ i _ => n - (intOf i).toNat)
  case atStart => exact ⟨0, by omega, by simp, none, 0, 0, [], rfl, H0, rfl, Nat.le_refl _, by simp [Hid, attrsG], by simp [Hid, okG]⟩
  case round =>
    obtain ⟨k, hk, rfl, A, m, c, L, rfl, H, HL, HM, HA, HO⟩ := hrel
    clear H0
    by_cases ck : k < n
    · obtain ⟨p, hp⟩ := next_some ps k (by rw [HLP.out]; exact ck)
      obtain ⟨c0, hc⟩ := next_some cs k (by rw [HLC.out]; exact ck)
      obtain ⟨y, hy⟩ := next_some xs k (by rw [HLX.out]; exact ck)
      obtain ⟨p0, p1⟩ := cellsP_at ps k p hp
      have hPS := wide_blk HPS.out H.wider
      have q0 := blk_cell hPS (k * 2) (v := pv p) (by simpa using p0)
      have q1 := blk_cell hPS (k * 2 + 1) (v := gv p) (by simpa using p1)
      have j0 : (0 : Int) ≤ (k : Int) := by omega
      have j1 : (k : Int) < (n : Int) := by omega
      have cK := wkeep H.wider c1
      by_cases ok : c0.ok y
      · obtain ⟨S, hS⟩ : ∃ S, c0.enc y = S := ⟨_, rfl⟩
        have hq := (HPP.out k p c0 y hp hc hy S 0 (.inl ⟨ok, hS.symm, rfl⟩)).on H.wider
        have hA2 : Hid (attrsG 1 (cs.take (k + 1)) (xs.take (k + 1)) = addT L (k + 1) S) := by
          show _ = _
          rw [attrsG_next (by rw [HLX.out, HLC.out]) hc hy, ← HA.out, hS]
        have hO2 : Hid (okG (cs.take (k + 1)) (xs.take (k + 1))) := by
          refine okG_of _ _ (by have := HLX.out; have := HLC.out; simp; omega) fun i d z hd hz => ?_
          rw [List.getElem?_take] at hd hz
          split at hd
          · rename_i hi
            rw [if_pos hi] at hz
            by_cases e : i = k
            · subst e
              rw [hc] at hd; rw [hy] at hz
              injection hd with hd; injection hz with hz
              subst hd hz; exact ok
            · exact okG_at _ _ i d z HO.out (by rw [List.getElem?_take, if_pos (by omega)]; exact hd) (by rw [List.getElem?_take, if_pos (by omega)]; exact hz)
          · cases hd
        have ent : ∀ (args : Array Value) (w : World), (callFunc p.pf args).run Tryz.prog w = .ok (.enter p.pf args) w := hq.1
        have hq2 := hq.2
        clear hq
        clear hp hc hy p0 p1 hPS ok hS HO HA
        by_cases z : S.size = 0
        · obtain rfl := empty_of S z
          have hA3 : Hid (L = attrsG 1 (cs.take (k + 1)) (xs.take (k + 1))) := by
            show _ = _
            rw [hA2.out]; unfold addT; rw [if_pos z]
          clear hA2 z
          go_wp2_with (go_at_fn p.pf; ((with_reducible refine (hq2 _ ((Wider.refl wr).alloc _)).mono ?_); rintro e w3 ⟨rfl, g3⟩))
          have H3 := H.quiet (((Wider.refl wr).alloc _).trans g3)
          go_roundw
          case rel => exact ⟨k + 1, by omega, by go_num, A, m, c, L, rfl, H3, HL, by show _ ≤ _; have := HM.out; omega, hA3, hO2⟩
          case measure => simp [intOf]; omega
        · obtain ⟨s1, s2⟩ := ne_empty S z
          have hA3 : Hid (L ++ [⟨k + 1, S⟩] = attrsG 1 (cs.take (k + 1)) (xs.take (k + 1))) := by
            show _ = _
            rw [hA2.out]; unfold addT; rw [if_neg z]
          have hm := HM.out
          have S3 : Hid (m + 1 ≤ maxLen) := by show _ ≤ maxLen; unfold maxLen; omega
          have S4 : Hid ((m + 1) * 24 ≤ 140737488355328) := by show _ ≤ _; omega
          have SN : Hid (cellsA L ++ [.int .u8 ((k : Int) + 1), .string S] = cellsA (L ++ [⟨k + 1, S⟩])) := by show _ = _; rw [cellsA_snoc]; simp
          have w8 : IntKind.u8.wrap ((k : Int) + 1) = (k : Int) + 1 := by simp [IntKind.wrap, IntKind.bits, IntKind.signed]; omega
          clear hA2 z hm
          go_wp2_with (first
            | (go_at_fn p.pf; ((with_reducible refine (hq2 _ ((Wider.refl wr).alloc _)).mono ?_); rintro e w3 ⟨rfl, g3⟩; have H3 := (H.quiet (((Wider.refl wr).alloc _).trans g3)).quiet ((Wider.refl w3).alloc (.cells #[.int .u8 ((k : Int) + 1), .string S] 89)); have SIDE := lies2 w3 (.int .u8 ((k : Int) + 1)) (.string S) 89 rfl rfl; have H4 := Lib.hid H3; have SD := Lib.hid SIDE; clear H3 SIDE))
            | (at_builtin; refine wpList_append_thing rfl (.tmp 26) (.tmp 32) 82 rfl 89 i0 (.agg #[.int .u8 0, .string ⟨#[]⟩]) 2 24 Tryz.underlying82 hi hz0 hz1 hz2 rfl (by decide) (.slice A m c) m (cellsA L) rfl H4.out (some ⟨w3.heap.size, 0, none⟩) 1 1 [.int .u8 ((k : Int) + 1), .string S] rfl rfl (fun e => by cases e) (fun a e => by cases e; exact SD.out.1) SD.out.2 S3.out S4.out rfl SN.out ?_; intro B2 c2 w5 H5))
          go_roundw
          case rel => exact ⟨k + 1, by omega, by go_num, B2, m + 1, c2, L ++ [⟨k + 1, S⟩], rfl, H5, by show _ = _; rw [List.length_append, HL.out]; rfl, by show _ ≤ _; have := HM.out; omega, hA3, hO2⟩
          case measure => simp [intOf]; omega
      · have hno : ¬ okG cs xs := fun q => ok (okG_at cs xs k c0 y q hc hy)
        rcases HR.out with ⟨q, _, _⟩ | ⟨_, rfl, rfl⟩
        · exact absurd q hno
        · have hq := (HPP.out k p c0 y hp hc hy ⟨#[]⟩ 3 (.inr ⟨ok, rfl, rfl⟩)).on H.wider
          have ent : ∀ (args : Array Value) (w : World), (callFunc p.pf args).run Tryz.prog w = .ok (.enter p.pf args) w := hq.1
          have hq2 := hq.2
          clear hq
          clear hp hc hy p0 p1 hPS ok HO HA hno
          go_wp2_with (go_at_fn p.pf; ((with_reducible refine (hq2 _ ((Wider.refl wr).alloc _)).mono ?_); rintro e w3 ⟨rfl, g3⟩))
          have H3 := H.quiet (((Wider.refl wr).alloc _).trans g3)
          go_ret2
          exact ⟨rfl, H3.wider⟩
    · obtain rfl : k = n := by omega
      have hO := HO.out
      rw [List.take_of_length_le (by rw [HLC.out]; exact Nat.le_refl _), List.take_of_length_le (by rw [HLX.out]; exact Nat.le_refl _)] at hO
      have hA := HA.out
      rw [List.take_of_length_le (by rw [HLC.out]; exact Nat.le_refl _), List.take_of_length_le (by rw [HLX.out]; exact Nat.le_refl _)] at hA
      rcases HR.out with ⟨_, hT, rfl⟩ | ⟨q, _, _⟩
      · obtain ⟨A', c', ev, ha, _⟩ := atsAt_own H.head
        injection ev with e1 e2 e3
        subst e1
        have hb : (bytsA L).length < 1000000 := by rw [hA]; exact Nat.lt_of_le_of_lt (attrsG_size cs xs 1 hO) HS.out
        have zt := tenc_a A m c L wr ha HL.out (by have := HM.out; omega) (fun x hx => by rw [hA] at hx; have := attrsG_t cs xs 1 x hx; rw [HLC.out] at this; omega) hb (fun x hx => by
          obtain ⟨j, hj⟩ := List.getElem?_of_mem hx
          have := bytsA_one L j x hj; omega) (T := T) (r := 0) (by rw [hT, hA]; rfl) (by rw [hA]; exact okA_attrsG cs xs 1 0 hO HC.out (by omega))
        clear ha hb hT hA hO e2 e3 HO HA HR
        go_wp2_with (go_at_call 36; ((with_reducible refine zt.mono ?_); rintro e w3 ⟨rfl, g3⟩))
        go_ret2
        exact ⟨rfl, H.wider.trans g3⟩
      · exact absurd hO q
end Go.Proofs.YtilpimilbjcifaaGreatDoor

/- Package obj's record: what it reads, by walks. -/
namespace Go.Proofs.YtilpimilbjcifaaGreatDoor
set_option linter.unusedVariables false
set_option maxRecDepth 20000
open Go.ChangeShapes Go.WideShapes Go.ChangeAt Go.RowKit Go.Joins
open Go.ChangeMaps (open_string shut_string)

theorem tdec_o (s : ByteArray) (w : World) (hs : s.size < 1000000) {m : List AtN} {c n : Nat} (hd : decA [] 0 s.data.toList = (m, c)) (hn : m.length = n) :
    Calls Tryz.prog 38 #[.string s] w fun e w' => ∃ A cp, e = .returned (.tuple #[.slice A n cp, .int .i64 (c : Int)]) ∧ Wider w w' ∧ w'.ownsRow w.heap.size 89 2 (.slice A n cp) n (cellsA m) :=
  (tdec_a s w hs hd).mono fun e w' ⟨v, he, g, h⟩ => by
    obtain ⟨A, cp, rfl, _, _⟩ := atsAt_own h
    rw [hn] at he h
    exact ⟨A, cp, he, g, h⟩
section
variable {β : Type}
/-- The values that some cells of a block hold. -/
def StateG (B : Nat) (w : World) (C : Array Value) (os : List Nat) (Rs : List (Rel β)) (vs : List β) : Prop :=
  ∀ (k : Nat) o R x, os[k]? = some o → Rs[k]? = some R → vs[k]? = some x → ∃ u, C[o]? = some u ∧ R B w u x
theorem StateG.on {B : Nat} {W w : World} {C : Array Value} {os : List Nat} {Rs : List (Rel β)} {vs : List β} (h : StateG B W C os Rs vs) (hS : ∀ R ∈ Rs, RelS R) (g : WBut [B] W w) : StateG B w C os Rs vs := by
  intro k o R x h1 h2 h3
  obtain ⟨u, hu, hr⟩ := h k o R x h1 h2 h3
  exact ⟨u, hu, hS R (List.mem_of_getElem? h2) B W w u x g hr⟩
theorem StateG.set {B : Nat} {w : World} {C : Array Value} {os : List Nat} {Rs : List (Rel β)} {vs : List β} (h : StateG B w C os Rs vs) (hnd : os.Nodup) {i o : Nat} {R : Rel β} {x : β} {u : Value} (ho : os[i]? = some o) (hR : Rs[i]? = some R) (hC : o < C.size) (hu : R B w u x) :
    StateG B w (C.setIfInBounds o u) os Rs (vs.set i x) := by
  intro k o2 R2 x2 h1 h2 h3
  by_cases e : k = i
  · subst e
    rw [ho] at h1; rw [hR] at h2
    injection h1 with h1; injection h2 with h2
    subst h1 h2
    rw [List.getElem?_set] at h3
    split at h3
    · split at h3
      · injection h3 with h3
        subst h3
        exact ⟨u, by simp [hC], hu⟩
      · cases h3
    · rename_i q; exact absurd rfl q
  · have hne : o ≠ o2 := by
      intro q
      subst q
      exact e ((List.getElem?_inj (List.getElem?_eq_some_iff.1 h1).1 hnd).1 (h1.trans ho.symm))
    rw [List.getElem?_set_ne (Ne.symm e)] at h3
    obtain ⟨v, hv, hr⟩ := h k o2 R2 x2 h1 h2 h3
    exact ⟨v, by rw [Array.getElem?_setIfInBounds_ne hne]; exact hv, hr⟩
theorem readG_length (cs : List (Cod β)) : ∀ (l : List AtN) (us ws : List β), readG cs us l = some ws → ws.length = us.length
  | [], us, ws, h => by simp only [readG, Option.some.injEq] at h; rw [h]
  | a :: l, us, ws, h => by
    simp only [readG] at h
    cases h1 : stepG cs us a with
    | none => rw [h1] at h; cases h
    | some vs2 =>
      rw [h1] at h
      rw [readG_length cs l _ _ h]
      unfold stepG at h1
      cases h2 : codeAt cs a.t with
      | none => rw [h2] at h1; cases h1
      | some c =>
        rw [h2] at h1
        simp only at h1
        cases h3 : c.dec a.v with
        | none => rw [h3] at h1; cases h1
        | some v => rw [h3] at h1; simp only [Option.some.injEq] at h1; rw [← h1, List.length_set]
theorem okA_pos {l : List AtN} (h : okA 0 l = 0) {j : Nat} {x : AtN} (hx : l[j]? = some x) : 0 < x.t := by
  have key : ∀ (l : List AtN) (q : Nat), okA q l = 0 → ∀ x ∈ l, q < x.t := by
    intro l
    induction l with
    | nil => intro q _ x hx; cases hx
    | cons a l ih =>
      intro q h x hx
      have h2 : (if a.t ≤ q ∨ a.v.size = 0 then 3 else if 65535 < a.v.size then 5 else okA a.t l) = 0 := h
      split at h2
      · cases h2
      · rename_i c
        split at h2
        · cases h2
        · rcases List.mem_cons.1 hx with rfl | hx
          · rcases Nat.lt_or_ge q x.t with d | d
            · exact d
            · exact absurd (.inl d) c
          · have := ih a.t h2 x hx
            rcases Nat.lt_or_ge q a.t with d | d
            · omega
            · exact absurd (.inl d) c
  exact key l 0 h x (List.mem_of_getElem? hx)
theorem okA_small {s : ByteArray} {m : List AtN} (h : decA [] 0 s.data.toList = (m, 0)) {j : Nat} {t : Nat} {q : ByteArray} (hx : m[j]? = some ⟨t, q⟩) : t < 256 := by
  obtain ⟨l, e1, _, _, e4⟩ := decA_inv _ s.data.toList rfl [] 0 m h
  rw [List.nil_append] at e1
  subst e1
  exact e4 _ (List.mem_of_getElem? hx)
theorem codeAt_some {cs : List (Cod β)} {i : Nat} {c : Cod β} (h : cs[i]? = some c) : codeAt cs (i + 1) = some c := by
  unfold codeAt
  rw [if_neg (by omega)]
  exact h
end
set_option maxHeartbeats 16000000 in
theorem recget_c {β : Type} {W : World} {b0 B : Nat} {x : FnP} {ps : List FnP} (hR : RecAt b0 W x ps) {cs : List (Cod β)} {os : List Nat} {Rs : List (Rel β)} (hlp : ps.length = cs.length) (hlo : os.length = cs.length) (hlr : Rs.length = cs.length) (hnd : os.Nodup) (hS : ∀ R ∈ Rs, RelS R) (hn9 : cs.length < 255)
    (hp : ∀ (k : Nat) p c o R, ps[k]? = some p → cs[k]? = some c → os[k]? = some o → Rs[k]? = some R → Gets b0 W p ⟨B, o, none⟩ c R) (hb : B < b0) :
    Enters Tryz.prog x.gf ∧ ∀ w C t, Keeps b0 W w → w.heap[B]? = some (.cells C t (0, 0)) → (∀ o ∈ os, o < C.size) → StateG B w C os Rs (zeroG cs) → ∀ s : ByteArray, s.size < 1000000 → ∀ vs r, decG cs s.data.toList = (vs, r) →
      Calls Tryz.prog x.gf (#[.string s] ++ x.gc) w fun e w' => e = .returned (.int .i64 (r : Int)) ∧ WBut [B] w w' ∧ (r = 0 → ∃ C', w'.heap[B]? = some (.cells C' t (0, 0)) ∧ C'.size = C.size ∧ (∀ i, i ∉ os → C'[i]? = C[i]?) ∧ StateG B w' C' os Rs vs) := by
  obtain ⟨K, P, n, t0, rfl, hK, hP, hk, hps, hn⟩ := hR
  refine ⟨enters_of Tryz.func182 (by kernel_rfl) rfl, ?_⟩
  intro w C t g hC hos hst s hs vs r hr
  show Calls Tryz.prog 182 #[.string s, .pointer (some ⟨K, 0, none⟩)] w _
  obtain ⟨m, c, hd⟩ : ∃ m c, decA [] 0 s.data.toList = (m, c) := ⟨_, _, rfl⟩
  obtain ⟨nm, hnm⟩ : ∃ nm, m.length = nm := ⟨_, rfl⟩
  have hl := decA_few hd
  have zd := fun W : World => tdec_o s W hs hd hnm
  have hBl : B < w.heap.size := (Array.getElem?_eq_some_iff.1 hC).1
  by_cases c0 : c = 0
  · subst c0
    have HK0 : Hid (∀ w', WBut [B] w w' → w'.cell? ⟨K, 0, none⟩ = some (.slice (some ⟨P, 0, none⟩) n n)) := fun w' g' => blk_cell (keep_blk hk (g.trans (g'.keeps hb)) hK) 0 rfl
    have HP0 : Hid (∀ w', WBut [B] w w' → w'.heap[P]? = some (.cells (cellsP ps).toArray t0 (0, 0))) := fun w' g' => keep_blk hps (g.trans (g'.keeps hb)) hP
    have HG : Hid (∀ (k : Nat) p c o R, ps[k]? = some p → cs[k]? = some c → os[k]? = some o → Rs[k]? = some R → ∀ w', WBut [B] w w' → Gets b0 w' p ⟨B, o, none⟩ c R) := fun k p c o R h1 h2 h3 h4 w' g' => (hp k p c o R h1 h2 h3 h4).on (g.trans (g'.keeps hb)) (Nat.le_refl _)
    have HLP : Hid (ps.length = n) := hn
    have HLC : Hid (cs.length = n) := by show _ = _; omega
    have HLO : Hid (os.length = n) := by show _ = _; omega
    have HLR : Hid (Rs.length = n) := by show _ = _; omega
    have hn5 : n < 255 := by omega
    have HD := Lib.hid hd
    have HN := Lib.hid hnm
    have HR := Lib.hid hr
    have HO := Lib.hid hos
    have HC := Lib.hid hC
    have HSt := Lib.hid hst
    have HND := Lib.hid hnd
    have HS := Lib.hid hS
    rw [hnm] at hl
    clear hp hn hd hnm hr hos hst hnd hS hC hk hps g hlp hlo hlr hn9
    go_enter Tryz.func182, Tryz.ntmps182
    go_wp2_with (go_at_call 38; ((with_reducible refine (zd _).mono ?_); rintro e w2 ⟨A, cp, rfl, g2, h2⟩; have HO1 := Lib.hid h2; have HG2 := Lib.hid g2; clear h2 g2))
    clear zd
    go_loopw [18] (fun i wr => ∃ j : Nat, j ≤ nm ∧ i = .int .i64 (j : Int) ∧ Hid (WBut [B] w wr) ∧ Hid (wr.ownsRow (B + 1) 89 2 (.slice A nm cp) nm (cellsA m)) ∧ ∃ C' us, Hid (wr.heap[B]? = some (.cells C' t (0, 0)) ∧ C'.size = C.size ∧ (∀ i, i ∉ os → C'[i]? = C[i]?) ∧ StateG B wr C' os Rs us ∧ readG cs (zeroG cs) (m.take j) = some us)) (fun i _ => nm - (intOf i).toNat)
    case atStart => exact ⟨0, by omega, by simp, HG2.out.but _, ownsRow_less HO1.out (by omega), C, zeroG cs, wide_blk HC.out HG2.out, rfl, fun _ _ => rfl, HSt.out.on HS.out (HG2.out.but _), rfl⟩
    case round =>
      obtain ⟨j, hj, rfl, HW, HO2, C', us, HU⟩ := hrel
      by_cases cj : j < nm
      · have j0 : (0 : Int) ≤ (j : Int) := by omega
        have j1 : (j : Int) < (nm : Int) := by omega
        obtain ⟨y, hy⟩ := next_some m j (by rw [HN.out]; exact cj)
        obtain ⟨A', cp', ea, ha, _⟩ := atsAt_own HO2.out
        injection ea with ea1 ea2 ea3
        subst ea1 ea3
        cases A with
        | none => exact absurd (ha.none_ rfl) (by intro e; rw [e] at hy; simp at hy)
        | some a =>
          have hA := ha.cell a rfl j y hy
          have hpos := okA_pos (decA_okA HD.out) hy
          have sz : y.v.size < 1000000 := attr_small HD.out hs hy
          have HY := Lib.hid hy
          clear hy ha
          obtain ⟨ty, q⟩ := y
          have ⟨k0, k1⟩ := hA
          have k2 := hA.flat
          simp only at k0 k1 k2 sz hpos
          clear hA
          obtain ⟨i, rfl⟩ : ∃ i, ty = i + 1 := ⟨ty - 1, by omega⟩
          have cK := HK0.out wr HW.out
          have ht : i < 255 ∨ 255 ≤ i := by omega
          have hty : i + 1 < 256 := okA_small HD.out HY.out
          have w1 : IntKind.u8.wrap (i : Int) = (i : Int) := by simp [IntKind.wrap, IntKind.bits, IntKind.signed]; omega
          have w64 : IntKind.i64.wrap ((i : Int) + 1) = (i : Int) + 1 := by simp [IntKind.wrap, IntKind.bits, IntKind.signed]; omega
          have HNO : stepG cs us ⟨i + 1, q⟩ = none → r = 3 := fun e => by
            have k := HR.out
            rw [decG_none HD.out (readG_stuck HU.out.2.2.2.2 HY.out e)] at k
            injection k with _ k
            exact k.symm
          have HYES : Hid (readG cs (zeroG cs) (m.take (j + 1)) = stepG cs us ⟨i + 1, q⟩) := readG_next HU.out.2.2.2.2 HY.out
          have n2 := new2 wr (.int .u8 ((i : Int) + 1)) (.string q) 89
          by_cases ci : i < n
          · have d1 : decide ((n : Int) < (i : Int) + 1) = false := decide_eq_false (by omega)
            have i0 : (0 : Int) ≤ (i : Int) := by omega
            have i1 : (i : Int) < (n : Int) := by omega
            obtain ⟨p, hp⟩ := next_some ps i (by rw [HLP.out]; exact ci)
            obtain ⟨c0, hc⟩ := next_some cs i (by rw [HLC.out]; exact ci)
            obtain ⟨o, ho⟩ := next_some os i (by rw [HLO.out]; exact ci)
            obtain ⟨R, hR⟩ := next_some Rs i (by rw [HLR.out]; exact ci)
            obtain ⟨p0, p1⟩ := cellsP_at ps i p hp
            have q1 := blk_cell (HP0.out wr HW.out) (i * 2 + 1) (v := gv p) (by simpa using p1)
            have hG := HG.out i p c0 o R hp hc ho hR wr HW.out
            have ent : ∀ (args : Array Value) (w : World), (callFunc p.gf args).run Tryz.prog w = .ok (.enter p.gf args) w := hG.1
            have HOI : Hid (o ∈ os) := List.mem_of_getElem? ho
            have HIX : Hid (cs[i]? = some c0 ∧ os[i]? = some o ∧ Rs[i]? = some R) := ⟨hc, ho, hR⟩
            clear hp hc ho hR p0 p1 HG HO1
            have HU1 := HU.out.1
            have hoC : o < C'.size := by rw [HU.out.2.1]; exact HO.out o HOI.out
            cases hdec : c0.dec q with
            | some z =>
              have hst : stepG cs us ⟨i + 1, q⟩ = some (us.set i z) := step_at (codeAt_some HIX.out.1) hdec
              go_upto_region 7 with (fail)
              have G4 := (Wider.refl wr).alloc (.cells #[.int .u8 ((i : Int) + 1), .string q] 89)
              obtain ⟨w4, hw4⟩ : ∃ w4, wr.alloc (.cells #[.int .u8 ((i : Int) + 1), .string q] 89) = w4 := ⟨_, rfl⟩
              rw [hw4] at n2 G4 ⊢
              have hcall := (hG.2 B o rfl hb w4.drew C' t (G4.keeps b0) (wide_blk HU1 G4) hoC q sz).1 z hdec
              have cK4 := wkeep G4 cK
              have q14 := wkeep G4 q1
              have ⟨n20, n21, _, _⟩ := n2
              have G4H := Lib.hid G4
              clear n2 hw4 cK q1 hG G4 HNO hdec HU1
              go_still_tail 16, (by kernel_rfl)
              change wpList _ _ _ _ _ w4.drew
              go_wp2_with (first
                | (go_at_fn p.gf; ((with_reducible refine hcall.mono ?_); rintro e w5 ⟨rfl, g5, u, hu, h5⟩)))
              have g45 : WBut [B] wr w5 := wider_but (G4H.out.drew) g5
              go_roundw
              case rel =>
                refine ⟨j + 1, by omega, by go_num, HW.out.trans g45 (fun i m => .inl m), ?_, C'.setIfInBounds o u, us.set i z, h5, by simp [HU.out.2.1], fun k hk => ?_, ?_, by rw [HYES.out, hst]⟩
                · exact ownsRow_heap HO2.out fun k hk => g45.heap k (HO2.out.lt k (by simpa using hk)).2 (by have := (HO2.out.lt k (by simpa using hk)).1; simp; omega)
                · rw [Array.getElem?_setIfInBounds_ne (fun e => hk (by rw [← e]; exact HOI.out))]
                  exact HU.out.2.2.1 k hk
                · exact (HU.out.2.2.2.1.on HS.out g45).set HND.out HIX.out.2.1 HIX.out.2.2 hoC hu
              case measure => simp [intOf]; omega
            | none =>
              have hr3 := HNO (step_bad (codeAt_some HIX.out.1) hdec)
              subst hr3
              go_upto_region 7 with (fail)
              have G4 := (Wider.refl wr).alloc (.cells #[.int .u8 ((i : Int) + 1), .string q] 89)
              obtain ⟨w4, hw4⟩ : ∃ w4, wr.alloc (.cells #[.int .u8 ((i : Int) + 1), .string q] 89) = w4 := ⟨_, rfl⟩
              rw [hw4] at n2 G4 ⊢
              have hcall := (hG.2 B o rfl hb w4.drew C' t (G4.keeps b0) (wide_blk HU1 G4) hoC q sz).2 hdec
              have cK4 := wkeep G4 cK
              have q14 := wkeep G4 q1
              have ⟨n20, n21, _, _⟩ := n2
              have G4H := Lib.hid G4
              clear n2 hw4 cK q1 hG G4 HNO hdec HU1
              go_still_tail 16, (by kernel_rfl)
              change wpList _ _ _ _ _ w4.drew
              go_wp2_with (first
                | (go_at_fn p.gf; ((with_reducible refine hcall.mono ?_); rintro e w5 ⟨r5, rfl, h5, g5⟩; have d5 : ((r5 : Int) == 0) = false := by rw [beq_eq_false_iff_ne]; omega)))
              go_ret
              exact ⟨rfl, HW.out.trans (wider_but (G4H.out.drew) g5) (fun i m => .inl m), fun e => absurd e (by decide)⟩
          · have d1 : decide ((n : Int) < (i : Int) + 1) = true := decide_eq_true (by omega)
            have d2 : decide (n ≤ i) = true := decide_eq_true (by omega)
            have d3 : decide ((n : Int) ≤ (i : Int)) = true := decide_eq_true (by omega)
            have d4 : n ≤ i := by omega
            have hr3 := HNO (step_none (by show ¬ (1 ≤ i + 1 ∧ i + 1 ≤ cs.length); rw [HLC.out]; omega))
            subst hr3
            clear HNO HG HO1
            go_upto_region 7 with (fail)
            have G4 := (Wider.refl wr).alloc (.cells #[.int .u8 ((i : Int) + 1), .string q] 89)
            obtain ⟨w4, hw4⟩ : ∃ w4, wr.alloc (.cells #[.int .u8 ((i : Int) + 1), .string q] 89) = w4 := ⟨_, rfl⟩
            rw [hw4] at n2 G4 ⊢
            have cK4 : ∀ x : After w4, x.w.cell? ⟨K, 0, none⟩ = some (.slice (some ⟨P, 0, none⟩) n n) := fun x => wkeep x.h (wkeep G4 cK)
            have n20 : ∀ x : After w4, x.w.cell? ⟨wr.heap.size, 0, none⟩ = some (.int .u8 ((i : Int) + 1)) := fun x => wkeep x.h n2.1
            have n21 : ∀ x : After w4, x.w.cell? ⟨wr.heap.size, 1, none⟩ = some (.string q) := fun x => wkeep x.h n2.2.1
            have G4H := Lib.hid G4
            clear n2 hw4 cK G4
            refine wp_region_after (by kernel_rfl) (by kernel_rfl) (Wider.refl _) ?_
            repeat (go_big_quiet_step (fail))
            refine wpQuiet_nil ?_
            rintro _ ⟨y, rfl⟩
            go_wp2
            go_ret
            exact ⟨rfl, HW.out.trans ((G4H.out.trans y.h).but _) (fun i m => .inl m)⟩
      · obtain rfl : j = nm := by omega
        have hu := HU.out.2.2.2.2
        rw [List.take_of_length_le (by rw [HN.out]; exact Nat.le_refl _)] at hu
        have k := HR.out
        rw [decG_some HD.out hu] at k
        injection k with k1 k2
        subst k1 k2
        clear hu HO1
        go_wp2
        go_ret
        exact ⟨rfl, HW.out, C', HU.out.1, HU.out.2.1, HU.out.2.2.1, HU.out.2.2.2.1⟩
  · rw [decG_err hd c0] at hr
    injection hr with h1 h2
    subst h2
    have d0 : ((c : Int) == 0) = false := by rw [beq_eq_false_iff_ne]; omega
    have d1 : ((c : Int) != 0) = true := by rw [bne_iff_ne]; omega
    clear hp hnd hS hos hst hd hlp hlo hlr hn9
    go_enter Tryz.func182, Tryz.ntmps182
    go_wp2_with (go_at_call 38; ((with_reducible refine (zd _).mono ?_); rintro e w2 ⟨A, cp, rfl, g2, h2⟩))
    go_ret
    exact ⟨rfl, g2.but _, fun e => absurd e c0⟩
end Go.Proofs.YtilpimilbjcifaaGreatDoor
