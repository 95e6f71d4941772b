/- Package tlv's calls, beside things that a law has made; refused, awake. -/
import Derived.Test.YtemfionibnlniaaTCode
import Derived.Test.YtemfionibnlniaaTBulk
import Derived.Test.YtemfionibnlniaaTHelp
import Derived.Test.YtemfionibnlniaaTRefE
import Derived.WalkKit
import Derived.Lib.Hide
import Derived.Deep.DeepCutAuto
import Derived.WalkLawsBesides
import Derived.WalkSpells
import Derived.BigQuiet
import Derived.BigRegion
import Derived.Deep.RegionHeld3
namespace Go.Proofs.Ytemfionibnlniaa
set_option linter.unusedVariables false
open Go.ChangeShapes Go.WideShapes Go.ChangeAt Go.RowKit Go.Joins
open Go.ChangeMaps (open_string shut_string)


section
variable {V W : World} {L : List Thing}
theorem Own.ats {w : World} {E : TypeId} {A : Option Addr} {n cap : Nat} {l : List AtN} (H : Own V w (rowT E 2 (.slice A n cap) n (cellsA l) :: L)) : AtsAt w A l := by
  obtain ⟨A', cap', e, h, _⟩ := atsAt_own H.head
  injection e with e1 e2 e3
  subst e1
  exact h
theorem Own.strs {w : World} {E : TypeId} {A : Option Addr} {n cap : Nat} {l : List ByteArray} (H : Own V w (rowT E 1 (.slice A n cap) n (cellsS l) :: L)) : StrsAt w A l := by
  obtain ⟨A', cap', e, h, _⟩ := strsAt_own H.head
  injection e with e1 e2 e3
  subst e1
  exact h
/-- A row of attributes that a call has made. -/
theorem Own.mades (H : Own V W L) {w : World} {E : TypeId} {v : Value} {n : Nat} {l : List AtN} (g : Wider W w) (h : w.ownsRow W.heap.size E 2 v n (cellsA l)) : ∃ A cap, v = .slice A n cap ∧ Own V w (rowT E 2 (.slice A n cap) n (cellsA l) :: L) := by
  obtain ⟨A, cap, e, _⟩ := atsAt_own h
  subst e
  exact ⟨A, cap, rfl, H.row g h⟩
theorem Own.madet (H : Own V W L) {w : World} {E : TypeId} {v : Value} {n : Nat} {l : List ByteArray} (g : Wider W w) (h : w.ownsRow W.heap.size E 1 v n (cellsS l)) : ∃ A cap, v = .slice A n cap ∧ Own V w (rowT E 1 (.slice A n cap) n (cellsS l) :: L) := by
  obtain ⟨A, cap, e, _⟩ := strsAt_own h
  subst e
  exact ⟨A, cap, rfl, H.row g h⟩
theorem attrs_1 (H : Own V W L) (A : Option Addr) (n cap : Nat) (l : List AtN) (h : AtsAt W A l) (hn : l.length = n) (hl : n < 1000000) :
    Calls Try.prog 14 #[.slice A n cap] W fun e w' => ∃ B c2, e = .returned (.slice B n c2) ∧ Own V w' (rowT 38 2 (.slice B n c2) n (cellsA l) :: L) :=
  (attrs_c A n cap l W h hn hl).mono fun e w' ⟨v, he, g, k⟩ => by obtain ⟨B, c2, rfl, H2⟩ := H.mades g k; exact ⟨B, c2, he, H2⟩
theorem plain_1 (H : Own V W L) (A : Option Addr) (n cap : Nat) (l : List AtN) (h : AtsAt W A l) (hn : l.length = n) (hl : n < 1000000) :
    Calls Try.prog 18 #[.slice A n cap] W fun e w' => ∃ B c2, e = .returned (.slice B n c2) ∧ Own V w' (rowT 58 2 (.slice B n c2) n (cellsA l) :: L) :=
  (plain_c A n cap l W h hn hl).mono fun e w' ⟨v, he, g, k⟩ => by obtain ⟨B, c2, rfl, H2⟩ := H.mades g k; exact ⟨B, c2, he, H2⟩
theorem dec_1 (H : Own V W L) (s : ByteArray) (hs : s.size < 1000000) {m : List AtN} {n c : Nat} (hr : decA [] 0 s.data.toList = (m, c)) (hn : m.length = n) :
    Calls Try.prog 19 #[.string s] W fun e w' => ∃ B c2, e = .returned (.tuple #[.slice B n c2, .int .i64 (c : Int)]) ∧ Own V w' (rowT 38 2 (.slice B n c2) n (cellsA m) :: L) :=
  (tdec_a s W hs hr).mono fun e w' ⟨v, he, g, k⟩ => by rw [hn] at k; obtain ⟨B, c2, rfl, H2⟩ := H.mades g k; exact ⟨B, c2, he, H2⟩
theorem rdec_1 (H : Own V W L) (s : ByteArray) (hs : s.size < 1000000) {m : List AtN} {n c : Nat} (hr : decA [] 0 s.data.toList = (m, c)) (hn : m.length = n) :
    Calls Try.prog 20 #[.string s] W fun e w' => ∃ B c2, e = .returned (.tuple #[.slice B n c2, .int .i64 (c : Int)]) ∧ Own V w' (rowT 58 2 (.slice B n c2) n (cellsA m) :: L) :=
  (rdec_c s W hs hr).mono fun e w' ⟨v, he, g, k⟩ => by rw [hn] at k; obtain ⟨B, c2, rfl, H2⟩ := H.mades g k; exact ⟨B, c2, he, H2⟩
theorem readlist_1 (H : Own V W L) (s : ByteArray) (most : Int) (hs : s.size < 1000000) (m0 : -9223372036854775808 ≤ most) (m1 : most ≤ 9223372036854775807) {m : List ByteArray} {n c : Nat} (hr : decT [] most s.data.toList = (m, c)) (hn : m.length = n) :
    Calls Try.prog 29 #[.string s, .int .i64 most] W fun e w' => ∃ B c2, e = .returned (.tuple #[.slice B n c2, .int .i64 (c : Int)]) ∧ Own V w' (rowT 9 1 (.slice B n c2) n (cellsS m) :: L) :=
  (treadlist_a s most W hs m0 m1 hr).mono fun e w' ⟨v, he, g, k⟩ => by rw [hn] at k; obtain ⟨B, c2, rfl, H2⟩ := H.madet g k; exact ⟨B, c2, he, H2⟩
theorem rreadlist_1 (H : Own V W L) (s : ByteArray) (most : Int) (hs : s.size < 1000000) (m0 : -9223372036854775808 ≤ most) (m1 : most ≤ 9223372036854775807) {m : List ByteArray} {n c : Nat} (hr : decT [] most s.data.toList = (m, c)) (hn : m.length = n) :
    Calls Try.prog 30 #[.string s, .int .i64 most] W fun e w' => ∃ B c2, e = .returned (.tuple #[.slice B n c2, .int .i64 (c : Int)]) ∧ Own V w' (rowT 9 1 (.slice B n c2) n (cellsS m) :: L) :=
  (rreadlist_c s most W hs m0 m1 hr).mono fun e w' ⟨v, he, g, k⟩ => by rw [hn] at k; obtain ⟨B, c2, rfl, H2⟩ := H.madet g k; exact ⟨B, c2, he, H2⟩
end

/-- Bytes that are refused. -/
theorem refused_c (s : ByteArray) (c : Nat) (hs : s.size < 1000000) (hr : decA [] 0 s.data.toList = ([], c)) (w : World) :
    Calls Try.prog 31 #[.string s, .int .i64 (c : Int)] w fun e w' => e = .returned (.bool true) ∧ Wider w w' := by
  have H : Own w w [] := Own.nil (Wider.refl w)
  have c0 : ((c : Int) == (c : Int)) = true := beq_self_eq_true _
  go_enter Try.func31, Try.ntmps31
  go_wp2_with (go_at_call 19; ((with_reducible refine (dec_1 H s hs hr rfl).mono ?_); clear H; rintro e w1 ⟨B, c2, rfl, H⟩))
  go_ret
  exact ⟨rfl, H.wider⟩

/-- A literal of attributes. -/
theorem AtsAt.new (w : World) (l : List AtN) (t : TypeId) (C : Array Value) (hC : C = (cellsA l).toArray) : AtsAt (w.alloc (.cells C t)) (some ⟨w.heap.size, 0, none⟩) l where
  none_ e := by cases e
  cell a e j x hx := by
    obtain rfl : (⟨w.heap.size, 0, none⟩ : Addr) = a := by injection e
    have e2 : ∀ j, (⟨w.heap.size, 0, none⟩ : Addr).add j = ⟨w.heap.size, j, none⟩ := fun j => by
      unfold Addr.add; by_cases h : j = 0
      · subst h; simp
      · simp [h]
    obtain ⟨q0, q1⟩ := cellsA_at l j x hx
    refine ⟨?_, ?_⟩
    · rw [e2, World.cell?_alloc_new, hC]; simpa using q0
    · rw [addr_add2, e2, World.cell?_alloc_new, hC]; simpa using q1
/-- Encode, List of a literal. -/
theorem enc_l (l : List AtN) (n : Nat) (C : Array Value) (hC : C = (cellsA l).toArray) (hn : l.length = n) (hl : n < 1000000) (ht : ∀ x ∈ l, x.t < 256) (hb : (bytsA l).length < 1000000) (hv : ∀ x ∈ l, x.v.size < 1000000) {T : ByteArray} {r : Nat} (hT : encA l = T) (hr : okA 0 l = r) (W : World) :
    Calls Try.prog 15 #[.slice (some ⟨W.heap.size, 0, none⟩) n n] (W.alloc (.cells C 38)) fun e w' => e = .returned (.tuple #[.string T, .int .i64 (r : Int)]) ∧ Wider W w' :=
  (tenc_a _ n n l _ (AtsAt.new W l _ C hC) hn hl ht hb hv hT hr).mono fun e w' h => ⟨h.1, ((Wider.refl W).alloc _).trans h.2⟩
theorem list_l (l : List ByteArray) (n : Nat) (C : Array Value) (hC : C = (l.map Value.string).toArray) (hn : l.length = n) (hl : n < 1000000) (hb : (bytsT l).length < 1000000) {T : ByteArray} {r : Nat} (hT : encT l = T) (hr : okT l = r) (W : World) :
    Calls Try.prog 26 #[.slice (some ⟨W.heap.size, 0, none⟩) n n] (W.alloc (.cells C 9)) fun e w' => e = .returned (.tuple #[.string T, .int .i64 (r : Int)]) ∧ Wider W w' :=
  (tlist_a _ n n l _ (StrsAt.new W l _ C hC) hn hl hb hT hr).mono fun e w' h => ⟨h.1, ((Wider.refl W).alloc _).trans h.2⟩

set_option maxHeartbeats 4000000 in
theorem awake6_c (w : World) : Calls Try.prog 13 #[] w fun e w' => e = .returned (.bool true) ∧ Wider w w' := by
  have G : Hid (Wider w w) := Wider.refl w
  have z1 := fun W : World => enc_l [⟨3, ⟨#[97, 98]⟩⟩] 1 #[.int .u8 3, .string ⟨#[97, 98]⟩] rfl rfl (by decide) (by simp) (by decide) (by simp; decide) (T := ⟨#[3, 0, 2, 97, 98]⟩) (r := 0) rfl rfl W
  have z2 : ∀ W : World, Calls Try.prog 21 #[.string ⟨#[0]⟩, .int .u64 9] W fun e w' => e = .returned (.tuple #[.int .u64 0, .int .i64 3]) ∧ Wider W w' := fun W => treadnum_a ⟨#[0]⟩ 9 W (by decide) (by decide) (v := 0) (r := 3) rfl
  have z3 := fun W : World => list_l [⟨#[]⟩, ⟨#[97]⟩] 2 #[.string ⟨#[]⟩, .string ⟨#[97]⟩] rfl rfl (by decide) (by decide) (T := ⟨#[0, 0, 0, 1, 97]⟩) (r := 0) rfl rfl W
  have z4 : ∀ W : World, Calls Try.prog 23 #[.int .u64 0] W fun e w' => e = .returned (.string ⟨#[]⟩) ∧ Wider W w' := fun W => tnum_a 0 W (by decide) (by rw [numB_0]; rfl)
  have z5 : ∀ W : World, Calls Try.prog 23 #[.int .u64 256] W fun e w' => e = .returned (.string ⟨#[1, 0]⟩) ∧ Wider W w' := fun W => tnum_a 256 W (by decide) (by rw [numB_pos 256 (by decide), numB_pos (256 / 256) (by decide), show 256 / 256 / 256 = 0 from rfl, numB_0]; rfl)
  have z6 : ∀ W : World, Calls Try.prog 31 #[.string ⟨#[3, 0, 0]⟩, .int .i64 3] W fun e w' => e = .returned (.bool true) ∧ Wider W w' := fun W => refused_c ⟨#[3, 0, 0]⟩ 3 (by decide) (by
    show decA [] 0 [3, 0, 0] = _
    rw [decA_some, if_pos (by decide)]) W
  have z7 : ∀ W : World, Calls Try.prog 31 #[.string ⟨#[3, 0]⟩, .int .i64 4] W fun e w' => e = .returned (.bool true) ∧ Wider W w' := fun W => refused_c ⟨#[3, 0]⟩ 4 (by decide) (decA_short [] 0 [3, 0] (by simp) (by decide)) W
  have z8 : ∀ W : World, Calls Try.prog 31 #[.string ⟨#[3, 0, 2, 97]⟩, .int .i64 4] W fun e w' => e = .returned (.bool true) ∧ Wider W w' := fun W => refused_c ⟨#[3, 0, 2, 97]⟩ 4 (by decide) (by
    show decA [] 0 [3, 0, 2, 97] = _
    rw [decA_some, if_neg (by decide), if_pos (by decide)]) W
  go_enter Try.func13, Try.ntmps13
  go_wp2_with (first
    | (go_at_call 15; ((with_reducible refine (z1 _).mono ?_); rintro e w1 ⟨rfl, g⟩; replace G := htrans G g; clear g))
    | (go_at_call 21; ((with_reducible refine (z2 _).mono ?_); rintro e w1 ⟨rfl, g⟩; replace G := htrans G g; clear g))
    | (go_at_call 26; ((with_reducible refine (z3 _).mono ?_); rintro e w1 ⟨rfl, g⟩; replace G := htrans G g; clear g))
    | (go_at_call 23; ((with_reducible refine (z4 _).mono ?_); rintro e w1 ⟨rfl, g⟩; replace G := htrans G g; clear g))
    | (go_at_call 23; ((with_reducible refine (z5 _).mono ?_); rintro e w1 ⟨rfl, g⟩; replace G := htrans G g; clear g))
    | (go_at_call 31; ((with_reducible refine (z6 _).mono ?_); rintro e w1 ⟨rfl, g⟩; replace G := htrans G g; clear g))
    | (go_at_call 31; ((with_reducible refine (z7 _).mono ?_); rintro e w1 ⟨rfl, g⟩; replace G := htrans G g; clear g))
    | (go_at_call 31; ((with_reducible refine (z8 _).mono ?_); rintro e w1 ⟨rfl, g⟩; replace G := htrans G g; clear g)))
  go_ret
  exact ⟨rfl, G.out⟩

end Go.Proofs.Ytemfionibnlniaa
