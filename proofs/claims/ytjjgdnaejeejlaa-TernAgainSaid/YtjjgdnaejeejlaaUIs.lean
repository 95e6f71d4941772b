/- Package tern: a set in memory, by all its items: contracts of what it is asked. -/
import Derived.Test.YtjjgdnaejeejlaaUUse
namespace Go.Proofs.Ytjjgdnaejeejlaa
set_option linter.unusedVariables false
open Go.ChangeShapes Go.WideShapes Go.ChangeAt Go.RowKit Go.Joins Go.Maps Go.ChangeMaps

def SetIs (V w : World) (R : List Thing) (S : Nat) (L : List ItN) (N : Nat) : Prop := ∃ s : SetN, s.A = S ∧ Own V w (s.things ++ R) ∧ SetL s L N
theorem SetIs.quiet {V w w' : World} {R : List Thing} {S : Nat} {L : List ItN} {N : Nat} (h : SetIs V w R S L N) (g : Wider w w') : SetIs V w' R S L N := by
  obtain ⟨s, e, H, hl⟩ := h; exact ⟨s, e, H.quiet g, hl⟩
theorem SetIs.wider {V w : World} {R : List Thing} {S : Nat} {L : List ItN} {N : Nat} (h : SetIs V w R S L N) : Wider V w := by
  obtain ⟨s, e, H, hl⟩ := h; exact H.wider
theorem SetIs.perm {V w : World} {R R' : List Thing} {S : Nat} {L : List ItN} {N : Nat} (h : SetIs V w R S L N) (p : R.Perm R') : SetIs V w R' S L N := by
  obtain ⟨s, e, H, hl⟩ := h; exact ⟨s, e, H.perm (p.append_left _), hl⟩
/-- The rest of what is owned, changed with the set left as it is. -/
theorem SetIs.rest {V w : World} {R : List Thing} {S : Nat} {L : List ItN} {N : Nat} (h : SetIs V w R S L N) : Own V w R := by
  obtain ⟨s, e, H, hl⟩ := h; exact Own.dropL H
theorem snew_c {V w : World} {R : List Thing} (H : Own V w R) : Calls Try.prog 12 #[] w fun e w' => ∃ S : Nat, e = .returned (.pointer (some ⟨S, 0, none⟩)) ∧ SetIs V w' R S [] 0 :=
  (unew_1 H).mono fun e w' ⟨s, he, h1, h2⟩ => ⟨s.A, he, s, rfl, h1, h2⟩
theorem sput_o {V w : World} {R : List Thing} {S : Nat} {L : List ItN} {N : Nat} (h : SetIs V w R S L N) (hN : N < 99990) {k m : ByteArray} {q v : Int} (hf : FormN ⟨k, m, q, v⟩) (hk : k.size < 1000000) (hm : m.size < 1000000) {M : List ItN} (hM : butL L ⟨k, m, q, v⟩ ++ [⟨k, m, q, v⟩] = M) :
    Calls Try.prog 14 #[.pointer (some ⟨S, 0, none⟩), .agg #[.string k, .string m, .int .i64 q, .int .i64 v]] w fun e w' => e = .returned (.int .i64 0) ∧ SetIs V w' R S M (N + 1) := by
  obtain ⟨s, rfl, H, hl⟩ := h
  subst hM
  refine (tput_1 H hl hN ⟨k, m, q, v⟩ hf ⟨hk, hm⟩).mono ?_
  rintro e w' ⟨t, e1, e2, H', hl'⟩
  exact ⟨e2, t, e1, H', hl'⟩
theorem sputbad_o {V w : World} {R : List Thing} {S : Nat} {L : List ItN} {N : Nat} (h : SetIs V w R S L N) {k m : ByteArray} {q v : Int} (hf : ¬ FormN ⟨k, m, q, v⟩) (hk : k.size < 1000000) :
    Calls Try.prog 14 #[.pointer (some ⟨S, 0, none⟩), .agg #[.string k, .string m, .int .i64 q, .int .i64 v]] w fun e w' => e = .returned (.int .i64 3) ∧ SetIs V w' R S L N :=
  (tput_bad ⟨k, m, q, v⟩ hk hf w).mono fun e w' ⟨e1, g⟩ => ⟨e1, h.quiet g⟩
theorem sdelno_o {V w : World} {R : List Thing} {S : Nat} {L : List ItN} {N : Nat} (h : SetIs V w R S L N) (hN : N < 99990) {k m : ByteArray} {q : Int} (hk : k.size < 1000000) (hm : m.size < 1000000) (hno : ∀ y ∈ L, ¬ SameN y ⟨k, m, q, 0⟩) :
    Calls Try.prog 17 #[.pointer (some ⟨S, 0, none⟩), .string k, .string m, .int .i64 q] w fun e w' => e = .returned (.bool false) ∧ SetIs V w' R S L N := by
  obtain ⟨s, rfl, H, hl⟩ := h
  refine (tdel_no H hl hN hk hm hno).mono ?_
  rintro e w' ⟨e2, H'⟩
  exact ⟨e2, s, rfl, H', hl⟩
theorem sdel_o {V w : World} {R : List Thing} {S : Nat} {L : List ItN} {N : Nat} (h : SetIs V w R S L N) (hN : N < 99990) {k m : ByteArray} {q : Int} (hk : k.size < 1000000) (hm : m.size < 1000000) (hy : ∃ y ∈ L, SameN y ⟨k, m, q, 0⟩) {M : List ItN} (hM : delL L k m q = M) :
    Calls Try.prog 17 #[.pointer (some ⟨S, 0, none⟩), .string k, .string m, .int .i64 q] w fun e w' => e = .returned (.bool true) ∧ SetIs V w' R S M N := by
  obtain ⟨s, rfl, H, hl⟩ := h
  subst hM
  refine (tdel_yes H hl hN hk hm hy).mono ?_
  rintro e w' ⟨t, e1, e2, H', hl'⟩
  exact ⟨e2, t, e1, H', hl'⟩
theorem slen_o {V w : World} {R : List Thing} {S : Nat} {L : List ItN} {N : Nat} (h : SetIs V w R S L N) {n : Int} (hn : (L.length : Int) = n) :
    Calls Try.prog 15 #[.pointer (some ⟨S, 0, none⟩)] w fun e w' => e = .returned (.int .i64 n) ∧ SetIs V w' R S L N := by
  obtain ⟨s, rfl, H, hl⟩ := h
  subst hn
  refine (ulen_c H (fun t ht => List.mem_append_left _ ht) hl).mono ?_
  rintro e w' ⟨e2, rfl⟩
  exact ⟨e2, s, rfl, H, hl⟩
theorem smasks_o {V w : World} {R : List Thing} {S : Nat} {L : List ItN} {N : Nat} (h : SetIs V w R S L N) {n : Int} (hn : ((masksF L).length : Int) = n) :
    Calls Try.prog 16 #[.pointer (some ⟨S, 0, none⟩)] w fun e w' => e = .returned (.int .i64 n) ∧ SetIs V w' R S L N := by
  obtain ⟨s, rfl, H, hl⟩ := h
  subst hn
  refine (umasks_o hl H (fun t ht => List.mem_append_left _ ht) rfl).mono ?_
  rintro e w' ⟨e2, rfl⟩
  exact ⟨e2, s, rfl, H, hl⟩
theorem slooks_o {V w : World} {R : List Thing} {S : Nat} {L : List ItN} {N : Nat} (h : SetIs V w R S L N) (hN : N < 99990) {key : ByteArray} (hk : key.size < 1000000) {n : Int} (hn : (looksF key L : Int) = n) :
    Calls Try.prog 19 #[.pointer (some ⟨S, 0, none⟩), .string key] w fun e w' => e = .returned (.int .i64 n) ∧ SetIs V w' R S L N := by
  obtain ⟨s, rfl, H, hl⟩ := h
  subst hn
  refine (ulooks_o hl hN hk H (fun t ht => List.mem_append_left _ ht) rfl).mono ?_
  rintro e w' ⟨e2, g⟩
  exact ⟨e2, s, rfl, H.quiet g, hl⟩
theorem sfind_o {V w : World} {R : List Thing} {S : Nat} {L : List ItN} {N : Nat} (h : SetIs V w R S L N) (hN : N < 99990) {key : ByteArray} (hk : key.size < 1000000) {k m : ByteArray} {q v : Int} {b : Bool} (hr : (findF key L).getD zeroI = ⟨k, m, q, v⟩) (hb : (findF key L).isSome = b) :
    Calls Try.prog 18 #[.pointer (some ⟨S, 0, none⟩), .string key] w fun e w' => e = .returned (.tuple #[.agg #[.string k, .string m, .int .i64 q, .int .i64 v], .bool b]) ∧ SetIs V w' R S L N := by
  obtain ⟨s, rfl, H, hl⟩ := h
  subst hb
  refine (ufind_o hl hN hk H (fun t ht => List.mem_append_left _ ht) rfl).mono ?_
  rintro e w' ⟨e2, g⟩
  rw [hr] at e2
  exact ⟨e2, s, rfl, H.quiet g, hl⟩
theorem sfound_o {V w : World} {R : List Thing} {S : Nat} {L : List ItN} {N : Nat} (h : SetIs V w R S L N) (hN : N < 99990) {key : ByteArray} (hk : key.size < 1000000) {v j : Int} (hj : ((looksF key L : Nat) : Int) = j) (hv : (findF key L = none ∧ v < 0) ∨ ∃ x, findF key L = some x ∧ x.v = v ∧ 0 ≤ v) :
    Calls Try.prog 13 #[.pointer (some ⟨S, 0, none⟩), .string key, .int .i64 v, .int .i64 j] w fun e w' => e = .returned (.bool true) ∧ SetIs V w' R S L N := by
  obtain ⟨s, rfl, H, hl⟩ := h
  refine (ufound_c hl hN hk H (fun t ht => List.mem_append_left _ ht) hj hv).mono ?_
  rintro e w' ⟨e2, g⟩
  exact ⟨e2, s, rfl, g, hl⟩
theorem SetIs.blk {V w : World} {R : List Thing} {S : Nat} {L : List ItN} {N : Nat} (h : SetIs V w R S L N) (C : Array Value) (t : TypeId) : SetIs V (w.alloc (.cells C t)) (blkT w.heap.size C t :: R) S L N := by
  obtain ⟨s, e, H, hl⟩ := h
  refine ⟨s, e, (H.blk C t).perm ?_, hl⟩
  exact (List.perm_middle (l₁ := s.things)).symm
abbrev itT4 (B : Nat) (x : ItN) : Thing := blkT B #[.string x.key, .string x.mask, .int .i64 x.prio, .int .i64 x.v] 26
theorem SetIs.item {V w : World} {R : List Thing} {S : Nat} {L : List ItN} {N : Nat} (h : SetIs V w R S L N) {B : Nat} {k m : ByteArray} {q v : Int} (hm : itT4 B ⟨k, m, q, v⟩ ∈ R) :
    w.cell? ⟨B, 0, none⟩ = some (.string k) ∧ w.cell? ⟨B, 1, none⟩ = some (.string m) ∧ w.cell? ⟨B, 2, none⟩ = some (.int .i64 q) ∧ w.cell? ⟨B, 3, none⟩ = some (.int .i64 v) := by
  have hb := h.rest.holds _ hm
  exact ⟨blk_cell hb 0 rfl, blk_cell hb 1 rfl, blk_cell hb 2 rfl, blk_cell hb 3 rfl⟩
theorem ms0 {a : Thing} {l : List Thing} : a ∈ a :: l := .head _
theorem ms1 {a b : Thing} {l : List Thing} : a ∈ b :: a :: l := .tail _ (.head _)
theorem umatchT (x : ItN) (k : ByteArray) (hk : k.size < 1000000) (h : MatchN x k) (w : World) : Calls Try.prog 10 #[aggI x, .string k] w fun e w' => e = .returned (.bool true) ∧ Wider w w' := umatch_c x k hk ⟨fun _ => h, fun _ => rfl⟩ w
theorem umatchF (x : ItN) (k : ByteArray) (hk : k.size < 1000000) (h : ¬ MatchN x k) (w : World) : Calls Try.prog 10 #[aggI x, .string k] w fun e w' => e = .returned (.bool false) ∧ Wider w w' := umatch_c x k hk ⟨fun q => (by cases q), fun q => absurd q h⟩ w
/-! ### The examples -/
abbrev xA : ItN := ⟨⟨#[16]⟩, ⟨#[240]⟩, 1, 7⟩
abbrev xB : ItN := ⟨⟨#[18]⟩, ⟨#[255]⟩, 5, 8⟩
theorem fA : FormN xA := by decide +kernel
theorem fB : FormN xB := by decide +kernel
theorem fC : ¬ FormN ⟨⟨#[17]⟩, ⟨#[240]⟩, 0, 0⟩ := by decide +kernel
theorem lA : butL [] xA ++ [xA] = [xA] := rfl
theorem lB : butL [xA] xB ++ [xB] = [xA, xB] := by kernel_rfl
theorem lkA0 : ((looksF ⟨#[18]⟩ [xA, xB] : Nat) : Int) = 1 := by kernel_rfl
theorem lkA1 : ((looksF ⟨#[19]⟩ [xA, xB] : Nat) : Int) = 2 := by kernel_rfl
theorem lkA2 : ((looksF ⟨#[18, 18]⟩ [xA, xB] : Nat) : Int) = 2 := by kernel_rfl
theorem lkA3 : ((masksF [xA, xB]).length : Int) = 2 := by kernel_rfl
theorem fdA0 : (findF ⟨#[18]⟩ [xA, xB] = none ∧ (8 : Int) < 0) ∨ ∃ x, findF ⟨#[18]⟩ [xA, xB] = some x ∧ x.v = 8 ∧ (0 : Int) ≤ 8 := .inr ⟨xB, by kernel_rfl, rfl, by decide⟩
theorem fdA1 : (findF ⟨#[19]⟩ [xA, xB] = none ∧ (7 : Int) < 0) ∨ ∃ x, findF ⟨#[19]⟩ [xA, xB] = some x ∧ x.v = 7 ∧ (0 : Int) ≤ 7 := .inr ⟨xA, by kernel_rfl, rfl, by decide⟩
theorem fdA2 : (findF ⟨#[18, 18]⟩ [xA, xB] = none ∧ (-1 : Int) < 0) ∨ ∃ x, findF ⟨#[18, 18]⟩ [xA, xB] = some x ∧ x.v = -1 ∧ (0 : Int) ≤ -1 := .inl ⟨by kernel_rfl, by decide⟩
set_option maxRecDepth 20000 in
set_option maxHeartbeats 4000000 in
theorem awake12_c (w : World) : Calls Try.prog 9 #[] w fun e w' => e = .returned (.bool true) ∧ Wider w w' := by
  have H := Own.nil (Wider.refl w)
  go_enter Try.func9, Try.ntmps9
  go_wp2_with (first
    | (go_at_call 12; ((with_reducible refine (snew_c H).mono ?_); rintro e w1 ⟨A, rfl, K0⟩; clear H))
    | (go_at_call 14; ((with_reducible refine (sput_o K0 (by decide) fA (by decide) (by decide) lA).mono ?_); rintro e w2 ⟨rfl, K1⟩; clear K0))
    | (go_at_call 14; ((with_reducible refine (sput_o K1 (by decide) fB (by decide) (by decide) lB).mono ?_); rintro e w2 ⟨rfl, K⟩; clear K1))
    | (go_at_call 14; ((with_reducible refine (sputbad_o K fC (by decide)).mono ?_); clear K; rintro e w2 ⟨rfl, K⟩))
    | (go_at_call 13; ((with_reducible refine (sfound_o K (by decide) (by decide) lkA0 fdA0).mono ?_); clear K; rintro e w2 ⟨rfl, K⟩))
    | (go_at_call 13; ((with_reducible refine (sfound_o K (by decide) (by decide) lkA1 fdA1).mono ?_); clear K; rintro e w2 ⟨rfl, K⟩))
    | (go_at_call 13; ((with_reducible refine (sfound_o K (by decide) (by decide) lkA2 fdA2).mono ?_); clear K; rintro e w2 ⟨rfl, K⟩))
    | (go_at_call 16; ((with_reducible refine (smasks_o K lkA3).mono ?_); clear K; rintro e w2 ⟨rfl, K⟩)))
  go_ret
  exact ⟨rfl, K.wider⟩

end Go.Proofs.Ytjjgdnaejeejlaa
