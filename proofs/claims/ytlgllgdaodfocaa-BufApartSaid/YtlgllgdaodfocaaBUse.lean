/- A buffer that is at hand, beside other things: what its calls do to all of them. -/
import Derived.Test.YtlgllgdaodfocaaBCode
import Derived.Test.YtlgllgdaodfocaaSMake
namespace Go.Proofs.Ytlgllgdaodfocaa
set_option linter.unusedVariables false
open Go.RowKit

theorem getR_of (s : ByteArray) (o n : Nat) {a b : Int} (h1 : 1 ≤ n) (h2 : n ≤ 128) (h3 : o + n ≤ 8 * s.size) (h : IsW a b (fldW s o n)) : GetR s (o : Int) (n : Int) a b 0 :=
  ⟨errF_of h1 h2 h3, fun _ => by rw [Int.toNat_natCast, Int.toNat_natCast]; exact h, fun k => absurd rfl k⟩
theorem bputR_of (s : ByteArray) (o n : Nat) (x : BitVec 128) (h1 : 1 ≤ n) (h2 : n ≤ 128) (h3 : o + n ≤ 8 * s.size) : BPutR s (o : Int) (n : Int) x (putT s o n x) 0 :=
  ⟨errF_of h1 h2 h3, fun _ => by rw [Int.toNat_natCast, Int.toNat_natCast], fun k => absurd rfl k⟩
/-- A field of one text is that of another one, so many whole bytes behind. -/
theorem fld_move {s t : ByteArray} (o p n : Nat) (hn : n ≤ 128) (hm : o % 8 = p % 8) (h : ∀ j, j < n → byteS s ((o + j) / 8) = byteS t ((p + j) / 8)) : fldW s o n = fldW t p n :=
  (fldW_eq hn).2 fun j hj => bitS_move (by omega) (h j hj)

/-- A buffer at p of the text s, and the things L beside it. -/
def B1 (V w : World) (p : Addr) (s : ByteArray) (L : List Thing) : Prop := ∃ F, Own V w (bufT p s F :: L)
theorem B1.quiet {V W w : World} {p : Addr} {s : ByteArray} {L : List Thing} (h : B1 V W p s L) (g : Wider W w) : B1 V w p s L := by
  obtain ⟨F, h⟩ := h; exact ⟨F, h.quiet g⟩
theorem B1.drew {V W : World} {p : Addr} {s : ByteArray} {L : List Thing} (h : B1 V W p s L) : B1 V W.drew p s L := h.quiet (Wider.refl W).drew
theorem B1.wider {V w : World} {p : Addr} {s : ByteArray} {L : List Thing} (h : B1 V w p s L) : Wider V w := by obtain ⟨F, h⟩ := h; exact h.wider
theorem B1.size {V w : World} {p : Addr} {s : ByteArray} {L : List Thing} (h : B1 V w p s L) : s.size ≤ 9216 := by obtain ⟨F, h⟩ := h; exact bufAt_size h.head
theorem B1.drop {V w : World} {p : Addr} {s : ByteArray} {L : List Thing} (h : B1 V w p s L) : Own V w L := by obtain ⟨F, h⟩ := h; exact h.drop
/-- Two buffers. -/
def B2 (V w : World) (p : Addr) (s : ByteArray) (q : Addr) (t : ByteArray) (L : List Thing) : Prop := ∃ G, B1 V w p s (bufT q t G :: L)
theorem B2.quiet {V W w : World} {p q : Addr} {s t : ByteArray} {L : List Thing} (h : B2 V W p s q t L) (g : Wider W w) : B2 V w p s q t L := by
  obtain ⟨F, h⟩ := h; exact ⟨F, h.quiet g⟩
theorem B2.drew {V W : World} {p q : Addr} {s t : ByteArray} {L : List Thing} (h : B2 V W p s q t L) : B2 V W.drew p s q t L := h.quiet (Wider.refl W).drew
theorem B2.wider {V w : World} {p q : Addr} {s t : ByteArray} {L : List Thing} (h : B2 V w p s q t L) : Wider V w := by obtain ⟨F, h⟩ := h; exact h.wider
theorem B2.size {V w : World} {p q : Addr} {s t : ByteArray} {L : List Thing} (h : B2 V w p s q t L) : s.size ≤ 9216 := by obtain ⟨F, h⟩ := h; exact h.size
theorem B2.swap {V w : World} {p q : Addr} {s t : ByteArray} {L : List Thing} (h : B2 V w p s q t L) : B2 V w q t p s L := by
  obtain ⟨G, F, h⟩ := h; exact ⟨F, G, h.swap⟩
theorem B2.drop {V w : World} {p q : Addr} {s t : ByteArray} {L : List Thing} (h : B2 V w p s q t L) : B1 V w q t L := by
  obtain ⟨G, F, h⟩ := h; exact ⟨G, h.drop⟩

section
variable {V w : World} {p q : Addr} {s t : ByteArray} {L : List Thing}
theorem bnew_1 (s : ByteArray) (hs : s.size ≤ 9216) (h : Own V w L) :
    Calls Try.prog 12 #[.string s] w fun e w' => ∃ p, e = .returned (.tuple #[.pointer (some p), .int .i64 0]) ∧ B1 V w' p s L :=
  (bnew_a s hs w).mono fun e w' ⟨p, F, he, g, hb, hn⟩ => ⟨p, he, F, h.make g hb (bufAt_stable p s F) hn⟩
theorem blen_1 (h : B1 V w p s L) :
    Calls Try.prog 19 #[.pointer (some p)] w fun e w' => e = .returned (.int .i64 (s.size : Int)) ∧ B1 V w' p s L := by
  obtain ⟨F, h⟩ := h
  exact (blen_a h.head).mono fun e w' ⟨he, g⟩ => ⟨he, F, h.quiet g⟩
theorem btext_1 (h : B1 V w p s L) :
    Calls Try.prog 18 #[.pointer (some p)] w fun e w' => e = .returned (.string s) ∧ B1 V w' p s L := by
  obtain ⟨F, h⟩ := h
  exact (btext_a h.head).mono fun e w' ⟨he, g⟩ => ⟨he, F, h.quiet g⟩
theorem bget_1 (h : B1 V w p s L) (off width : Int) {a b r : Int} (o0 : -9223372036854775808 ≤ off) (o1 : off ≤ 9223372036854775807) (w0 : -9223372036854775808 ≤ width) (w1 : width ≤ 9223372036854775807) (hr : GetR s off width a b r) :
    Calls Try.prog 16 #[.pointer (some p), .int .i64 off, .int .i64 width] w fun e w' => e = .returned (.tuple #[.agg #[.int .u64 a, .int .u64 b], .int .i64 r]) ∧ B1 V w' p s L := by
  obtain ⟨F, h⟩ := h
  exact (bget_a h.head off width o0 o1 w0 w1 hr).mono fun e w' ⟨he, g⟩ => ⟨he, F, h.quiet g⟩
theorem bput_1 (h : B1 V w p s L) (off width : Int) (x : BitVec 128) {a b r : Int} {T : ByteArray} (o0 : -9223372036854775808 ≤ off) (o1 : off ≤ 9223372036854775807) (w0 : -9223372036854775808 ≤ width) (w1 : width ≤ 9223372036854775807) (hx : IsW a b x) (hr : BPutR s off width x T r) :
    Calls Try.prog 15 #[.pointer (some p), .int .i64 off, .int .i64 width, .agg #[.int .u64 a, .int .u64 b]] w fun e w' => e = .returned (.int .i64 r) ∧ B1 V w' p T L := by
  obtain ⟨F, h⟩ := h
  exact (bput_a h.head off width x o0 o1 w0 w1 hx hr).mono fun e w' ⟨he, G, g, hb, hn⟩ => ⟨he, G, h.turn g hb (bufAt_stable p T G) hn⟩
theorem bins_1 (h : B1 V w p s L) (at_ n : Int) {r : Int} {T : ByteArray} (o0 : -9223372036854775808 ≤ at_) (o1 : at_ ≤ 9223372036854775807) (w0 : -9223372036854775808 ≤ n) (w1 : n ≤ 9223372036854775807) (hr : InsR s at_ n T r) :
    Calls Try.prog 13 #[.pointer (some p), .int .i64 at_, .int .i64 n] w fun e w' => e = .returned (.int .i64 r) ∧ B1 V w' p T L := by
  obtain ⟨F, h⟩ := h
  exact (bins_a h.head at_ n o0 o1 w0 w1 hr).mono fun e w' ⟨he, G, g, hb, hn⟩ => ⟨he, G, h.turn g hb (bufAt_stable p T G) hn⟩
theorem bdel_1 (h : B1 V w p s L) (at_ n : Int) {r : Int} {T : ByteArray} (o0 : -9223372036854775808 ≤ at_) (o1 : at_ ≤ 9223372036854775807) (w0 : -9223372036854775808 ≤ n) (w1 : n ≤ 9223372036854775807) (hr : DelR s at_ n T r) :
    Calls Try.prog 14 #[.pointer (some p), .int .i64 at_, .int .i64 n] w fun e w' => e = .returned (.int .i64 r) ∧ B1 V w' p T L := by
  obtain ⟨F, h⟩ := h
  exact (bdel_a h.head at_ n o0 o1 w0 w1 hr).mono fun e w' ⟨he, G, g, hb, hn⟩ => ⟨he, G, h.turn g hb (bufAt_stable p T G) hn⟩
theorem bsum_1 (h : B1 V w p s L) (at_ n : Int) {r : Int} {v : Nat} (o0 : -9223372036854775808 ≤ at_) (o1 : at_ ≤ 9223372036854775807) (w0 : -9223372036854775808 ≤ n) (w1 : n ≤ 9223372036854775807) (hr : BSumR s at_ n v r) :
    Calls Try.prog 17 #[.pointer (some p), .int .i64 at_, .int .i64 n] w fun e w' => e = .returned (.tuple #[.int .u16 (v : Int), .int .i64 r]) ∧ B1 V w' p s L := by
  obtain ⟨F, h⟩ := h
  exact (bsum_a h.head at_ n o0 o1 w0 w1 hr).mono fun e w' ⟨he, g⟩ => ⟨he, F, h.quiet g⟩
theorem bcopy_1 (h : B1 V w p s L) :
    Calls Try.prog 20 #[.pointer (some p)] w fun e w' => ∃ q, e = .returned (.pointer (some q)) ∧ B2 V w' p s q s L := by
  obtain ⟨F, h⟩ := h
  exact (bcopy_a h.head).mono fun e w' ⟨q, G, he, g, hb, hn⟩ => ⟨q, he, G, F, (h.make g hb (bufAt_stable q s G) hn).swap⟩
theorem blen_2 (h : B2 V w p s q t L) :
    Calls Try.prog 19 #[.pointer (some p)] w fun e w' => e = .returned (.int .i64 (s.size : Int)) ∧ B2 V w' p s q t L := by
  obtain ⟨G, h⟩ := h
  exact (blen_1 h ).mono fun e w' ⟨he, hb⟩ => ⟨he, G, hb⟩
theorem btext_2 (h : B2 V w p s q t L) :
    Calls Try.prog 18 #[.pointer (some p)] w fun e w' => e = .returned (.string s) ∧ B2 V w' p s q t L := by
  obtain ⟨G, h⟩ := h
  exact (btext_1 h ).mono fun e w' ⟨he, hb⟩ => ⟨he, G, hb⟩
theorem bget_2 (h : B2 V w p s q t L) (off width : Int) {a b r : Int} (o0 : -9223372036854775808 ≤ off) (o1 : off ≤ 9223372036854775807) (w0 : -9223372036854775808 ≤ width) (w1 : width ≤ 9223372036854775807) (hr : GetR s off width a b r) :
    Calls Try.prog 16 #[.pointer (some p), .int .i64 off, .int .i64 width] w fun e w' => e = .returned (.tuple #[.agg #[.int .u64 a, .int .u64 b], .int .i64 r]) ∧ B2 V w' p s q t L := by
  obtain ⟨G, h⟩ := h
  exact (bget_1 h off width o0 o1 w0 w1 hr).mono fun e w' ⟨he, hb⟩ => ⟨he, G, hb⟩
theorem bput_2 (h : B2 V w p s q t L) (off width : Int) (x : BitVec 128) {a b r : Int} {T : ByteArray} (o0 : -9223372036854775808 ≤ off) (o1 : off ≤ 9223372036854775807) (w0 : -9223372036854775808 ≤ width) (w1 : width ≤ 9223372036854775807) (hx : IsW a b x) (hr : BPutR s off width x T r) :
    Calls Try.prog 15 #[.pointer (some p), .int .i64 off, .int .i64 width, .agg #[.int .u64 a, .int .u64 b]] w fun e w' => e = .returned (.int .i64 r) ∧ B2 V w' p T q t L := by
  obtain ⟨G, h⟩ := h
  exact (bput_1 h off width x o0 o1 w0 w1 hx hr).mono fun e w' ⟨he, hb⟩ => ⟨he, G, hb⟩
theorem bins_2 (h : B2 V w p s q t L) (at_ n : Int) {r : Int} {T : ByteArray} (o0 : -9223372036854775808 ≤ at_) (o1 : at_ ≤ 9223372036854775807) (w0 : -9223372036854775808 ≤ n) (w1 : n ≤ 9223372036854775807) (hr : InsR s at_ n T r) :
    Calls Try.prog 13 #[.pointer (some p), .int .i64 at_, .int .i64 n] w fun e w' => e = .returned (.int .i64 r) ∧ B2 V w' p T q t L := by
  obtain ⟨G, h⟩ := h
  exact (bins_1 h at_ n o0 o1 w0 w1 hr).mono fun e w' ⟨he, hb⟩ => ⟨he, G, hb⟩
theorem bdel_2 (h : B2 V w p s q t L) (at_ n : Int) {r : Int} {T : ByteArray} (o0 : -9223372036854775808 ≤ at_) (o1 : at_ ≤ 9223372036854775807) (w0 : -9223372036854775808 ≤ n) (w1 : n ≤ 9223372036854775807) (hr : DelR s at_ n T r) :
    Calls Try.prog 14 #[.pointer (some p), .int .i64 at_, .int .i64 n] w fun e w' => e = .returned (.int .i64 r) ∧ B2 V w' p T q t L := by
  obtain ⟨G, h⟩ := h
  exact (bdel_1 h at_ n o0 o1 w0 w1 hr).mono fun e w' ⟨he, hb⟩ => ⟨he, G, hb⟩
theorem bsum_2 (h : B2 V w p s q t L) (at_ n : Int) {r : Int} {v : Nat} (o0 : -9223372036854775808 ≤ at_) (o1 : at_ ≤ 9223372036854775807) (w0 : -9223372036854775808 ≤ n) (w1 : n ≤ 9223372036854775807) (hr : BSumR s at_ n v r) :
    Calls Try.prog 17 #[.pointer (some p), .int .i64 at_, .int .i64 n] w fun e w' => e = .returned (.tuple #[.int .u16 (v : Int), .int .i64 r]) ∧ B2 V w' p s q t L := by
  obtain ⟨G, h⟩ := h
  exact (bsum_1 h at_ n o0 o1 w0 w1 hr).mono fun e w' ⟨he, hb⟩ => ⟨he, G, hb⟩
theorem of_1 (s : ByteArray) (hs : s.size ≤ 9216) (h : Own V w L) :
    Calls Try.prog 25 #[.string s] w fun e w' => ∃ p, e = .returned (.pointer (some p)) ∧ B1 V w' p s L := by
  go_enter Try.func25, Try.ntmps25
  go_wp2_with (go_at_call 12; ((with_reducible refine (bnew_1 s hs h).mono ?_); rintro e w1 ⟨p, rfl, H⟩))
  go_ret
  exact ⟨p, rfl, H⟩
theorem of_2 (s : ByteArray) (hs : s.size ≤ 9216) (h : B1 V w q t L) :
    Calls Try.prog 25 #[.string s] w fun e w' => ∃ p, e = .returned (.pointer (some p)) ∧ B2 V w' q t p s L := by
  obtain ⟨F, h⟩ := h
  exact (of_1 s hs h).mono fun e w' ⟨p, he, hb⟩ => ⟨p, he, (show B2 V w' p s q t L from ⟨F, hb⟩).swap⟩
end

/-- A word's two cells in a block of its own. -/
abbrev wordT (B : Nat) (a b : Int) : Thing := ([B], fun w => w.cell? ⟨B, 0, none⟩ = some (.int .u64 a) ∧ w.cell? ⟨B, 1, none⟩ = some (.int .u64 b))
theorem wordT_stable (B : Nat) (a b : Int) : (wordT B a b).Stable := fun W w h k => by
  have e := k B (by simp)
  exact ⟨(cell_heap (a := ⟨B, 0, none⟩) e).trans h.1, (cell_heap (a := ⟨B, 1, none⟩) e).trans h.2⟩
theorem B1.add {V w : World} {p : Addr} {s : ByteArray} {L : List Thing} (h : B1 V w p s L) (a b : Int) (t : TypeId) : B1 V (w.alloc (.cells #[.int .u64 a, .int .u64 b] t)) p s (wordT w.heap.size a b :: L) := by
  obtain ⟨F, h⟩ := h
  obtain ⟨k0, k1, _, _⟩ := new2 w (.int .u64 a) (.int .u64 b) t
  refine ⟨F, (h.make (s := wordT w.heap.size a b) ((Wider.refl w).alloc _) ⟨k0, k1⟩ (wordT_stable _ a b) fun i hi => ?_).swap⟩
  rw [List.mem_singleton] at hi
  subst hi
  exact ⟨Nat.le_refl _, by show w.heap.size < (w.heap.push _).size; simp⟩
theorem B1.word {V w : World} {p : Addr} {s : ByteArray} {L : List Thing} {B : Nat} {a b : Int} (h : B1 V w p s (wordT B a b :: L)) : w.cell? ⟨B, 0, none⟩ = some (.int .u64 a) ∧ w.cell? ⟨B, 1, none⟩ = some (.int .u64 b) := by
  obtain ⟨F, h⟩ := h; exact h.second
theorem B1.less {V w : World} {p : Addr} {s : ByteArray} {x : Thing} {L : List Thing} (h : B1 V w p s (x :: L)) : B1 V w p s L := by
  obtain ⟨F, h⟩ := h; exact ⟨F, h.swap.drop⟩
theorem B1.alloc {V w : World} {p : Addr} {s : ByteArray} {L : List Thing} (h : B1 V w p s L) (o : Obj) : B1 V (w.alloc o) p s L := h.quiet ((Wider.refl w).alloc o)
theorem B2.alloc {V w : World} {p q : Addr} {s t : ByteArray} {L : List Thing} (h : B2 V w p s q t L) (o : Obj) : B2 V (w.alloc o) p s q t L := h.quiet ((Wider.refl w).alloc o)

/-- A place from 0 to n. -/
theorem bwithin_ex (n : Nat) (k : Int) (hn : n < 1152921504606846976) : ∃ P : Nat, wrap64 ((IntKind.u64.wrap k).tmod ((n : Int) + 1)) = (P : Int) ∧ P ≤ n := by
  have u0 : 0 ≤ IntKind.u64.wrap k := by rw [IntKind.wrap_u64]; omega
  rw [Int.tmod_eq_emod_of_nonneg u0]
  have v0 := Int.emod_nonneg (IntKind.u64.wrap k) (show (n : Int) + 1 ≠ 0 by omega)
  have v1 := Int.emod_lt_of_pos (IntKind.u64.wrap k) (show (0 : Int) < (n : Int) + 1 by omega)
  generalize IntKind.u64.wrap k % ((n : Int) + 1) = V at *
  have e1 : wrap64 V = V := by unfold wrap64; omega
  rw [e1]
  exact ⟨V.toNat, by omega, by omega⟩
/-- What the helper within of the statements answers: P of n and k. -/
def WithinR (n : Nat) (k : Int) (P : Nat) : Prop := wrap64 ((IntKind.u64.wrap k).tmod ((n : Int) + 1)) = (P : Int) ∧ P ≤ n
theorem within_c (n : Nat) (k N : Int) {P : Nat} (hN : N = (n : Int)) (hn : n < 1152921504606846976) (k0 : -9223372036854775808 ≤ k) (k1 : k ≤ 9223372036854775807) (hP : WithinR n k P) (w : World) :
    Calls Try.prog 24 #[.int .i64 k, .int .i64 N] w fun e w' => e = .returned (.int .i64 (P : Int)) ∧ w' = w := by
  subst hN
  obtain ⟨hP, hle⟩ := hP
  go_enter Try.func24, Try.ntmps24
  go_wp2
  go_ret
  exact ⟨by first | rfl | rw [← hP]; rfl, rfl⟩

end Go.Proofs.Ytlgllgdaodfocaa
