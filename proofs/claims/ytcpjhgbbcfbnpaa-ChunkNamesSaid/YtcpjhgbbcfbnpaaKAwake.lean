/- awake of the statements of layer 7: a walk. -/
import Derived.Test.YtcpjhgbbcfbnpaaKUse
import Derived.WalkKit
import Derived.Lib.Hide
import Derived.Deep.DeepCutAuto
import Derived.WalkLawsBesides
import Derived.WalkSpells
import Derived.BigQuiet
import Derived.BigRegion
import Derived.Deep.RegionHeld3
namespace Go.Proofs.Ytcpjhgbbcfbnpaa
set_option linter.unusedVariables false
open Go.ChangeShapes Go.WideShapes Go.ChangeAt Go.RowKit Go.Joins
open Go.ChangeMaps (open_string shut_string)


theorem feed_of (r : List UInt8) (s : ByteArray) (l : List UInt8) (hl : r ++ s.data.toList = l) {m : List ByteArray} {r2 : List UInt8} {b : Bool} (h : feedK [] l = (m, r2, b)) : (StrK.mk r false).feed s = (m, (if b = true then 5 else 0), ⟨r2, b⟩) := by
  unfold StrK.feed
  rw [if_neg (by simp)]
  simp only [hl, h]
theorem same_l {W : World} {A : Option Addr} {n cap : Nat} {l : List ByteArray} (h : StrsAt W A l) (t : TypeId) (C : Array Value) (hC : C = (l.map Value.string).toArray) (hn : l.length = n) (hl : n < 600000) :
    Calls Try.prog 15 #[.slice A n cap, .slice (some ⟨W.heap.size, 0, none⟩) n n] (W.alloc (.cells C t)) fun e w' => e = .returned (.bool true) ∧ Wider W w' :=
  (ksame_c A _ n cap n n l l _ (h.on ((Wider.refl W).alloc _)) (StrsAt.new W l t C hC) hn hn hl hl (iff_of_true rfl rfl)).mono fun e w' h => ⟨h.1, ((Wider.refl W).alloc _).trans h.2⟩

set_option maxRecDepth 20000 in
set_option maxHeartbeats 8000000 in
theorem awake7_c (w : World) : Calls Try.prog 10 #[] w fun e w' => e = .returned (.bool true) ∧ Wider w w' := by
  have H : Own w w [] := Own.nil (Wider.refl w)
  have f1 : StrK.new.feed ⟨#[0, 0, 0, 5, 104, 101, 108, 108, 111]⟩ = ([⟨#[104, 101, 108, 108, 111]⟩], 0, ⟨[], false⟩) := feed_of [] ⟨#[0, 0, 0, 5, 104, 101, 108, 108, 111]⟩ [0, 0, 0, 5, 104, 101, 108, 108, 111] rfl (m := [⟨#[104, 101, 108, 108, 111]⟩]) (r2 := []) (b := false) (by
    rw [feedK_some, if_neg (by decide), if_neg (by decide)]; exact feedK_few _ _ (by decide))
  have f2 : StrK.new.feed ⟨#[0, 0]⟩ = ([], 0, ⟨[0, 0], false⟩) := feed_of [] ⟨#[0, 0]⟩ [0, 0] rfl (m := []) (r2 := [0, 0]) (b := false) (feedK_few _ _ (by decide))
  have f3 : (StrK.mk [0, 0] false).feed ⟨#[0, 5, 104, 101, 108, 108, 111]⟩ = ([⟨#[104, 101, 108, 108, 111]⟩], 0, ⟨[], false⟩) := feed_of [0, 0] ⟨#[0, 5, 104, 101, 108, 108, 111]⟩ [0, 0, 0, 5, 104, 101, 108, 108, 111] rfl (m := [⟨#[104, 101, 108, 108, 111]⟩]) (r2 := []) (b := false) (by
    rw [feedK_some, if_neg (by decide), if_neg (by decide)]; exact feedK_few _ _ (by decide))
  have f4 : (StrK.mk [] false).feed ⟨#[0, 0, 0, 4]⟩ = ([], 5, ⟨[], true⟩) := feed_of [] ⟨#[0, 0, 0, 4]⟩ [0, 0, 0, 4] rfl (m := []) (r2 := []) (b := true) (by rw [feedK_some, if_pos (by decide)])
  have f5 : (StrK.mk [] true).feed ⟨#[120]⟩ = ([], 14, ⟨[], true⟩) := rfl
  have f6 : StrK.new.feed ⟨#[0, 0, 64]⟩ = ([], 0, ⟨[0, 0, 64], false⟩) := feed_of [] ⟨#[0, 0, 64]⟩ [0, 0, 64] rfl (m := []) (r2 := [0, 0, 64]) (b := false) (feedK_few _ _ (by decide))
  have f7 : (StrK.mk [0, 0, 64] false).feed ⟨#[1]⟩ = ([], 5, ⟨[], true⟩) := feed_of [0, 0, 64] ⟨#[1]⟩ [0, 0, 64, 1] rfl (m := []) (r2 := []) (b := true) (by rw [feedK_some, if_pos (by decide)])
  have z1 : ∀ (W : World) (A : Option Addr) (cap : Nat), StrsAt W A [⟨#[104, 101, 108, 108, 111]⟩] → Calls Try.prog 15 #[.slice A 1 cap, .slice (some ⟨W.heap.size, 0, none⟩) 1 1] (W.alloc (.cells #[.string ⟨#[104, 101, 108, 108, 111]⟩] 9)) fun e w' => e = .returned (.bool true) ∧ Wider W w' :=
    fun W A cap h => same_l h 9 #[.string ⟨#[104, 101, 108, 108, 111]⟩] rfl rfl (by decide)
  have z2 : ∀ (W : World) (A B : Option Addr) (cap c2 : Nat), StrsAt W A [⟨#[104, 101, 108, 108, 111]⟩] → StrsAt W B [⟨#[104, 101, 108, 108, 111]⟩] → Calls Try.prog 15 #[.slice A 1 cap, .slice B 1 c2] W fun e w' => e = .returned (.bool true) ∧ Wider W w' :=
    fun W A B cap c2 h h2 => ksame_c A B 1 cap 1 c2 [⟨#[104, 101, 108, 108, 111]⟩] [⟨#[104, 101, 108, 108, 111]⟩] W h h2 rfl rfl (by decide) (by decide) (iff_of_true rfl rfl)
  go_enter Try.func10, Try.ntmps10
  go_wp2_with (first
    | (go_at_call 13; ((with_reducible refine (knew_1 H).mono ?_); clear H; rintro e w1 ⟨p, F, rfl, H⟩; skip))
    | (go_at_call 14; ((with_reducible refine (kfeed_1 (n := 1) H ⟨#[0, 0, 0, 5, 104, 101, 108, 108, 111]⟩ (by decide) (by decide) f1 rfl).mono ?_); clear H; rintro e w1 ⟨B, c2, F3, rfl, H⟩; replace H := H.drop))
    | (go_at_call 14; ((with_reducible refine (kfeed_1 (n := 0) H ⟨#[0, 0]⟩ (by decide) (by decide) f2 rfl).mono ?_); clear H; rintro e w1 ⟨B, c2, F3, rfl, H⟩; replace H := H.swap.drop))
    | (go_at_call 14; ((with_reducible refine (kfeed_1 (n := 1) H ⟨#[0, 5, 104, 101, 108, 108, 111]⟩ (by decide) (by decide) f3 rfl).mono ?_); clear H; rintro e w1 ⟨B, c2, F3, rfl, H⟩; replace H := H))
    | (go_at_call 14; ((with_reducible refine (kfeed_1 (n := 0) H ⟨#[0, 0, 0, 4]⟩ (by decide) (by decide) f4 rfl).mono ?_); clear H; rintro e w1 ⟨B, c2, F3, rfl, H⟩; replace H := H.swap.drop))
    | (go_at_call 14; ((with_reducible refine (kfeed_1 (n := 0) H ⟨#[120]⟩ (by decide) (by decide) f5 rfl).mono ?_); clear H; rintro e w1 ⟨B, c2, F3, rfl, H⟩; replace H := H.drop.drop))
    | (go_at_call 14; ((with_reducible refine (kfeed_1 (n := 0) H ⟨#[0, 0, 64]⟩ (by decide) (by decide) f6 rfl).mono ?_); clear H; rintro e w1 ⟨B, c2, F3, rfl, H⟩; replace H := H.swap.drop))
    | (go_at_call 14; ((with_reducible refine (kfeed_1 (n := 0) H ⟨#[1]⟩ (by decide) (by decide) f7 rfl).mono ?_); clear H; rintro e w1 ⟨B, c2, F3, rfl, H⟩; replace H := H.drop.drop))
    | (go_at_call 16; ((with_reducible refine (kwaits_a (x := ⟨[0, 0], false⟩) H.head).mono ?_); rintro e w1 ⟨rfl, g⟩; replace H := H.quiet g; clear g))
    | (go_at_call 16; ((with_reducible refine (kwaits_a (x := ⟨[0, 0, 64], false⟩) H.head).mono ?_); rintro e w1 ⟨rfl, g⟩; replace H := H.quiet g; clear g))
    | (go_at_call 11; ((with_reducible refine (kframe_a ⟨#[104, 105]⟩ _ (by decide) (T := ⟨#[]⟩) (r := 4) rfl rfl).mono ?_); rintro e w1 ⟨rfl, g⟩; replace H := H.quiet g; clear g))
    | (go_at_call 15; ((with_reducible refine (z1 _ _ _ H.drop.strs).mono ?_); rintro e w1 ⟨rfl, g⟩; replace H := H.quiet g; clear g))
    | (go_at_call 15; ((with_reducible refine (z2 _ _ _ _ _ H.strs H.drop.strs).mono ?_); rintro e w1 ⟨rfl, g⟩; replace H := H.quiet g; clear g)))
  go_ret
  exact ⟨rfl, H.wider⟩

end Go.Proofs.Ytcpjhgbbcfbnpaa
