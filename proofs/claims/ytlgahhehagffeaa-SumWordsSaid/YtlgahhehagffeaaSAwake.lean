/- What awake of the statements of package sum answers: true: the examples are as they are told. It asks the contracts of SCode alone. -/
import Derived.Test.YtlgahhehagffeaaSCode
namespace Go.Proofs.Ytlgahhehagffeaa
set_option linter.unusedVariables false
open Go.RowKit

/-- Sum and Of of a slice literal. -/
theorem ssum_l (l : List ByteArray) (n : Nat) (C : Array Value) {r : Nat} (hn : l.length = n) (hC : C = (l.map Value.string).toArray) (hl : n < 1000000) (hs : (joinL l).size < 1000000) (hr : sumS (joinL l).data.toList = r) (W : World) :
    Calls Try.prog 13 #[.slice (some ⟨W.heap.size, 0, none⟩) n n] (W.alloc (.cells C 9)) fun e w' => e = .returned (.int .u16 (r : Int)) ∧ Wider W w' :=
  (ssum_c _ n n l _ (StrsAt.new W l 9 C hC) hn hl hs hr).mono fun _ _ h => ⟨h.1, ((Wider.refl W).alloc _).trans h.2⟩
theorem sof_l (l : List ByteArray) (n : Nat) (C : Array Value) {r : Nat} (hn : l.length = n) (hC : C = (l.map Value.string).toArray) (hl : n < 1000000) (hs : (joinL l).size < 1000000) (hr : 65535 - sumS (joinL l).data.toList = r) (W : World) :
    Calls Try.prog 14 #[.slice (some ⟨W.heap.size, 0, none⟩) n n] (W.alloc (.cells C 9)) fun e w' => e = .returned (.int .u16 (r : Int)) ∧ Wider W w' :=
  (sof_c _ n n l _ (StrsAt.new W l 9 C hC) hn hl hs hr).mono fun _ _ h => ⟨h.1, ((Wider.refl W).alloc _).trans h.2⟩

theorem sa1 (w : World) : Calls Try.prog 15 #[.int .u16 65535, .int .u16 1] w fun e w' => e = .returned (.int .u16 1) ∧ Wider w w' :=
  sadd_c 65535 1 (by decide) (by decide) (r := 1) (by decide) w
theorem sa2 (w : World) : Calls Try.prog 15 #[.int .u16 65535, .int .u16 65535] w fun e w' => e = .returned (.int .u16 65535) ∧ Wider w w' :=
  sadd_c 65535 65535 (by decide) (by decide) (r := 65535) (by decide) w
abbrev ex8 : ByteArray := ⟨#[0, 1, 242, 3, 244, 245, 246, 247]⟩
theorem sa3 (W : World) : Calls Try.prog 13 #[.slice (some ⟨W.heap.size, 0, none⟩) 1 1] (W.alloc (.cells #[.string ⟨#[0, 1, 242, 3, 244, 245, 246, 247]⟩] 9)) fun e w' => e = .returned (.int .u16 56818) ∧ Wider W w' :=
  ssum_l [ex8] 1 _ (r := 56818) rfl rfl (by decide) (by decide) (by decide) W
theorem sa4 (W : World) : Calls Try.prog 14 #[.slice (some ⟨W.heap.size, 0, none⟩) 1 1] (W.alloc (.cells #[.string ⟨#[0, 1, 242, 3, 244, 245, 246, 247]⟩] 9)) fun e w' => e = .returned (.int .u16 8717) ∧ Wider W w' :=
  sof_l [ex8] 1 _ (r := 8717) rfl rfl (by decide) (by decide) (by decide) W
theorem sa5 (W : World) : Calls Try.prog 13 #[.slice (some ⟨W.heap.size, 0, none⟩) 1 1] (W.alloc (.cells #[.string ⟨#[97]⟩] 9)) fun e w' => e = .returned (.int .u16 24832) ∧ Wider W w' :=
  ssum_l [⟨#[97]⟩] 1 _ (r := 24832) rfl rfl (by decide) (by decide) (by decide) W
theorem sa6 (W : World) : Calls Try.prog 13 #[.slice (some ⟨W.heap.size, 0, none⟩) 2 2] (W.alloc (.cells #[.string ⟨#[97]⟩, .string ⟨#[98]⟩] 9)) fun e w' => e = .returned (.int .u16 24930) ∧ Wider W w' :=
  ssum_l [⟨#[97]⟩, ⟨#[98]⟩] 2 _ (r := 24930) rfl rfl (by decide) (by decide) (by decide) W
theorem sa7 (W : World) : Calls Try.prog 13 #[.slice (some ⟨W.heap.size, 0, none⟩) 1 1] (W.alloc (.cells #[.string ⟨#[97, 98]⟩] 9)) fun e w' => e = .returned (.int .u16 24930) ∧ Wider W w' :=
  ssum_l [⟨#[97, 98]⟩] 1 _ (r := 24930) rfl rfl (by decide) (by decide) (by decide) W
theorem sa8 (w : World) : Calls Try.prog 16 #[.string ⟨#[]⟩] w fun e w' => e = .returned (.bool false) ∧ Wider w w' :=
  sgood_c ⟨#[]⟩ (by decide) (by decide) w
theorem sa9 (w : World) : Calls Try.prog 16 #[.string ⟨#[255, 255]⟩] w fun e w' => e = .returned (.bool true) ∧ Wider w w' :=
  sgood_c ⟨#[255, 255]⟩ (by decide) (by decide) w
theorem sa10 (w : World) : Calls Try.prog 17 #[.int .u16 8717, .int .u16 1, .int .u16 2] w fun e w' => e = .returned (.int .u16 8716) ∧ Wider w w' :=
  supdate_c 8717 1 2 (by decide) (by decide) (by decide) (r := 8716) (by decide) w

set_option maxHeartbeats 1000000 in
theorem awake3_c (w : World) :
    Calls Try.prog 12 #[] w fun e w' => e = .returned (.bool true) ∧ Wider w w' := by
  have G : Hid (Wider w w) := Wider.refl w
  go_enter Try.func12, Try.ntmps12
  go_wp2_with (first
    | (go_at_call 15; ((with_reducible refine (sa1 _).mono ?_); rintro e w1 ⟨rfl, g⟩; replace G := htrans G g; clear g))
    | (go_at_call 15; ((with_reducible refine (sa2 _).mono ?_); rintro e w1 ⟨rfl, g⟩; replace G := htrans G g; clear g))
    | (go_at_call 13; ((with_reducible refine (sa3 _).mono ?_); rintro e w1 ⟨rfl, g⟩; replace G := htrans G g; clear g))
    | (go_at_call 14; ((with_reducible refine (sa4 _).mono ?_); rintro e w1 ⟨rfl, g⟩; replace G := htrans G g; clear g))
    | (go_at_call 13; ((with_reducible refine (sa5 _).mono ?_); rintro e w1 ⟨rfl, g⟩; replace G := htrans G g; clear g))
    | (go_at_call 13; ((with_reducible refine (sa6 _).mono ?_); rintro e w1 ⟨rfl, g⟩; replace G := htrans G g; clear g))
    | (go_at_call 13; ((with_reducible refine (sa7 _).mono ?_); rintro e w1 ⟨rfl, g⟩; replace G := htrans G g; clear g))
    | (go_at_call 16; ((with_reducible refine (sa8 _).mono ?_); rintro e w1 ⟨rfl, g⟩; replace G := htrans G g; clear g))
    | (go_at_call 16; ((with_reducible refine (sa9 _).mono ?_); rintro e w1 ⟨rfl, g⟩; replace G := htrans G g; clear g))
    | (go_at_call 17; ((with_reducible refine (sa10 _).mono ?_); rintro e w1 ⟨rfl, g⟩; replace G := htrans G g; clear g)))
  go_ret
  exact ⟨rfl, G.out⟩

theorem long_l (l : List ByteArray) (n : Nat) (C : Array Value) {r : Bool} (hn : l.length = n) (hC : C = (l.map Value.string).toArray) (hl : n ≤ 1000000) (hs : ∀ s ∈ l, s.size ≤ 2 ^ 63 - 1) (hr : decide (40000 ≤ bulk l) = r) (W : World) :
    Calls Try.prog 18 #[.slice (some ⟨W.heap.size, 0, none⟩) n n] (W.alloc (.cells C 9)) fun e w' => e = .returned (.bool r) ∧ Wider W w' :=
  (long_n _ n n l _ (StrsAt.new W l 9 C hC) hn (by omega) hs hr).mono fun _ _ h => ⟨h.1, h.2 ▸ (Wider.refl W).alloc _⟩
theorem long_1 (s : ByteArray) (hs : s.size ≤ 2 ^ 63 - 1) {r : Bool} (hr : decide (40000 ≤ 1 + s.size) = r) (W : World) :
    Calls Try.prog 18 #[.slice (some ⟨W.heap.size, 0, none⟩) 1 1] (W.alloc (.cells #[.string s] 9)) fun e w' => e = .returned (.bool r) ∧ Wider W w' := by
  refine long_l [s] 1 _ rfl rfl (by decide) (fun x h => by rw [List.mem_singleton] at h; rw [h]; exact hs) ?_ W
  rw [← hr]
  have e : bulk [s] = 1 + min 40000 s.size := by simp [bulk]
  rw [e, decide_eq_decide]; omega
theorem ssum_1 (s : ByteArray) {r : Nat} (hs : s.size < 1000000) (hr : sumS s.data.toList = r) (W : World) :
    Calls Try.prog 13 #[.slice (some ⟨W.heap.size, 0, none⟩) 1 1] (W.alloc (.cells #[.string s] 9)) fun e w' => e = .returned (.int .u16 (r : Int)) ∧ Wider W w' :=
  ssum_l [s] 1 _ rfl rfl (by decide) (by rw [joinL_one]; exact hs) (by rw [joinL_one]; exact hr) W
theorem sof_1 (s : ByteArray) {r : Nat} (hs : s.size < 1000000) (hr : 65535 - sumS s.data.toList = r) (W : World) :
    Calls Try.prog 14 #[.slice (some ⟨W.heap.size, 0, none⟩) 1 1] (W.alloc (.cells #[.string s] 9)) fun e w' => e = .returned (.int .u16 (r : Int)) ∧ Wider W w' :=
  sof_l [s] 1 _ rfl rfl (by decide) (by rw [joinL_one]; exact hs) (by rw [joinL_one]; exact hr) W

/-- The same behind a draw: in a region that draws its order. -/
theorem sof_1d (s : ByteArray) {r : Nat} (hs : s.size < 1000000) (hr : 65535 - sumS s.data.toList = r) (W : World) :
    Calls Try.prog 14 #[.slice (some ⟨W.heap.size, 0, none⟩) 1 1] (W.alloc (.cells #[.string s] 9)).drew fun e w' => e = .returned (.int .u16 (r : Int)) ∧ Wider W w' :=
  sof_1 s hs hr W.drew
theorem ssum_1d (s : ByteArray) {r : Nat} (hs : s.size < 1000000) (hr : sumS s.data.toList = r) (W : World) :
    Calls Try.prog 13 #[.slice (some ⟨W.heap.size, 0, none⟩) 1 1] (W.alloc (.cells #[.string s] 9)).drew fun e w' => e = .returned (.int .u16 (r : Int)) ∧ Wider W w' :=
  ssum_1 s hs hr W.drew
theorem ssum_ld (l : List ByteArray) (n : Nat) (C : Array Value) {r : Nat} (hn : l.length = n) (hC : C = (l.map Value.string).toArray) (hl : n < 1000000) (hs : (joinL l).size < 1000000) (hr : sumS (joinL l).data.toList = r) (W : World) :
    Calls Try.prog 13 #[.slice (some ⟨W.heap.size, 0, none⟩) n n] (W.alloc (.cells C 9)).drew fun e w' => e = .returned (.int .u16 (r : Int)) ∧ Wider W w' :=
  ssum_l l n C hn hC hl hs hr W.drew
theorem hdrew {V W : World} (h : Hid (Wider V W)) : Hid (Wider V W.drew) := h
theorem hdrewA {V W : World} {o : Obj} (h : Hid (Wider V W)) : Hid (Wider V (W.alloc o).drew) := h.out.alloc o
theorem hdrewD {V W : World} {o : Obj} (h : Hid (Wider V W.drew)) : Hid (Wider V (W.alloc o).drew) := Wider.alloc (W := V) (w := W) h o

/-- The same, told of the world behind the literal: in a region that holds more than one such call. -/
theorem ssum_la (l : List ByteArray) (n : Nat) (C : Array Value) {r : Nat} (hn : l.length = n) (hC : C = (l.map Value.string).toArray) (hl : n < 1000000) (hs : (joinL l).size < 1000000) (hr : sumS (joinL l).data.toList = r) (W : World) :
    Calls Try.prog 13 #[.slice (some ⟨W.heap.size, 0, none⟩) n n] (W.alloc (.cells C 9)) fun e w' => e = .returned (.int .u16 (r : Int)) ∧ Wider (W.alloc (.cells C 9)) w' :=
  ssum_c _ n n l _ (StrsAt.new W l 9 C hC) hn hl hs hr
theorem ssum_lad (l : List ByteArray) (n : Nat) (C : Array Value) {r : Nat} (hn : l.length = n) (hC : C = (l.map Value.string).toArray) (hl : n < 1000000) (hs : (joinL l).size < 1000000) (hr : sumS (joinL l).data.toList = r) (W : World) :
    Calls Try.prog 13 #[.slice (some ⟨W.heap.size, 0, none⟩) n n] (W.alloc (.cells C 9)).drew fun e w' => e = .returned (.int .u16 (r : Int)) ∧ Wider (W.alloc (.cells C 9)).drew w' :=
  ssum_c _ n n l _ (StrsAt.new W.drew l 9 C hC) hn hl hs hr

end Go.Proofs.Ytlgahhehagffeaa
